import Derived.Test.YtcdbhoknhnimcaaGreatDoorTNp1
import Derived.Test.YtcdbhoknhnimcaaGreatDoorTNf
import Derived.Test.YtcdbhoknhnimcaaGreatDoorTNo
import Derived.Deep.AppendLies
import Derived.Deep.AppendSrc
import Derived.RegionTactic
import Derived.Deep.RegionHeld3
set_option maxRecDepth 100000
set_option maxHeartbeats 4000000
namespace Go.Proofs.YtcdbhoknhnimcaaGreatDoor
section
open Go.RowKit
namespace Nx
def qK (e:TypeId) (B:Nat) (w:World) (v:Value) (zs:List Int):Prop:=w.ownsRow B e 1 v zs.length (zs.map (Value.int .i64))
abbrev aA5:=qK 2
theorem qK.keep {e:TypeId}{B:Nat}{w w':World}{v:Value}{zs:List Int}(h:qK e B w v zs) (hk:∀k,v.ownBlock=some k->w'.heap[k]?=w.heap[k]?):qK e B w' v zs:=by
 obtain ⟨hl,h2⟩:=h
 refine ⟨hl,?_⟩
 rcases h2 with h2|⟨g,cap,cur,rfl,hB,hg,hr⟩
 ·exact .inl h2
 ·exact .inr ⟨g,cap,cur,rfl,hB,by rw[hk g rfl];exact hg,hr⟩
theorem qK.nil (e:TypeId) (B:Nat) (w:World):qK e B w (.slice none 0 0) []:=World.ownsRow_nil _ _ _ _
theorem qK.form {e:TypeId}{B:Nat}{w:World}{v:Value}{zs:List Int}(h:qK e B w v zs):∃ad cap,v=.slice ad zs.length cap/\(∀k,v.ownBlock=some k->B≤k/\k<w.heap.size):=by
 obtain ⟨hl,h2⟩:=h
 rcases h2 with ⟨rfl,h0⟩|⟨g,cap,cur,rfl,hB,hg,hr⟩
 ·exact ⟨none,0,by rw[h0],fun k hk=>by simp[Value.ownBlock] at hk⟩
 ·refine ⟨_,cap,rfl,fun k hk=>?_⟩
  have:g=k:=by simpa [Value.ownBlock] using hk
  subst this
  exact ⟨hB,aB hg⟩
theorem qK.ints {e:TypeId}{B:Nat}{w:World}{v:Value}{zs:List Int}(h:qK e B w v zs):bL (fun b=>B≤b/\b<w.heap.size) w v zs:=by
 obtain ⟨g,hg,hB,hl,_⟩:=rC h
 by_cases hp:0<zs.length
 ·exact hg.ints fun _=>⟨hB,hl hp⟩
 ·obtain ⟨ad,cap,e,_⟩:=hg
  exact ⟨ad,0,0,cap,e,fun h=>absurd h hp,fun k hk=>absurd hk (by omega)⟩
theorem Q3 {P:Program}{w w':World}{ops:Array Oper}{o:Oper}{a:Act}{K:Act->World->Prop}{Q:Exit->Act->World->Prop}{E:Prop}(hgd:o.guard=none) (s x:Operand) (t:TypeId)
    (ho:o.op=.call { callee:=.builtin .append,args:=#[s,x],argTypes:=#[t,t] }) (vs vx r:Value) (hs:a.eval s=vs) (hx:a.eval x=vx) (hr:(Builtin.append_ #[t,t] o.type #[vs,vx]).run P w=.ok r w') (h:K (a.put o.dst r) w') :
    if Region.wanted o (yielded ops a.tmps)=true then Oper.wp P o a w K Q else E:=by
 have hw:Region.wanted o (yielded ops a.tmps)=true:=by simp[Region.wanted,hgd]
 rw[if_pos hw]
 unfold Oper.wp execOp
 simp only[ho,resolve,invoke,builtin,Sem.run_bind,Sem.run_pure,Result.andThen_ok,List.map_toArray,List.map_cons,List.map_nil,hs,hx,hr]
 exact h
theorem aP2 {A:Nat->Prop}(t e:TypeId) (ht:Tryz.prog.underlying t=some (.slice e)) (hinf:(Tryz.prog.info? e).map (fun i=>(i.zero,i.size,i.bytes))=some (some (.int .i64 0),1,8)) (B:Nat) (w:World) (v x:Value) (zs ys:List Int) (h:qK e B w v zs) (hx:bL A w x ys) (hB:B≤w.heap.size) (hp:0<zs.length\/0<ys.length) (hl:zs.length+ys.length≤1000000) :
    ∃g cap w',(Builtin.append_ #[t,t] t #[v,x]).run Tryz.prog w=.ok (.slice (some ⟨g,0,none⟩) (zs.length+ys.length) cap) w'/\
     qK e B w' (.slice (some ⟨g,0,none⟩) (zs.length+ys.length) cap) (zs++ys)/\w.grownBy w' v.ownBlock/\(v.ownBlock=some g\/g=w.heap.size)/\g<w'.heap.size:=by
 obtain ⟨i0,hi,hz0,hz1,hz2⟩:=info_parts hinf
 obtain ⟨ad,b,off,c,rfl,p1,p2⟩:=hx
 by_cases h0:0<ys.length
 ·obtain ⟨rfl,_⟩:=p1 h0
  obtain ⟨g,cap,w',hr,h2,h3,h4,h5⟩:=run_append_lies (P:=Tryz.prog) w t t B e i0 (.int .i64 0) 1 8 ht hi hz0 hz1 hz2 rfl (by decide) v zs.length _ h ⟨b,off,none⟩ ys.length c (ys.map (Value.int .i64)) (by simp)
   (fun j u hu=>by
    rw[pI]
    rw[List.getElem?_map] at hu
    have hj:j<ys.length:=by
     rcases Nat.lt_or_ge j ys.length with hj|hj
     ·exact hj
     ·rw[List.getElem?_eq_none hj] at hu;simp at hu
    rw[p2 j hj]
    rw[List.getElem?_eq_getElem hj] at hu
    simpa [List.getD_eq_getElem?_getD,hj] using hu)
   (fun u hu=>by obtain ⟨_,_,rfl⟩:=List.mem_map.1 hu;rfl) h0 (by unfold maxLen;omega) (by omega) hB _ rfl
  refine ⟨g,cap,w',hr,?_,h3,h4,h5⟩
  unfold qK
  rw[List.length_append,List.map_append];exact h2
 ·obtain rfl:ys=[]:=List.length_eq_zero_iff.1 (by omega)
  obtain ⟨hl',h2⟩:=id h
  rcases h2 with ⟨_,h0'⟩|⟨g,cap,cur,rfl,hB',hg,hn,hc,hs,hcur⟩
  ·simp at hp;omega
  ·have hsrc:Src Tryz.prog i0.size t (.slice ad 0 c) 0 [] w:=by
    cases ad with
    | none=>exact Src.ofNil w ht c
    | some a=>exact Src.ofSlice w ht a 0 c [] (by simp) (fun j u hu=>by simp at hu) (fun u hu=>by simp at hu)
   have hr:=run_append_room_src (P:=Tryz.prog) w t t t e i0 ht hi g 0 zs.length cap (.slice ad 0 c) 0 [] hsrc (by omega) (fun j hj=>by simp at hj) (fun j hj=>by simp at hj)
   refine ⟨g,cap,w,hr,?_,⟨rfl,rfl,rfl,Nat.le_refl _,fun _ _ _=>rfl⟩,.inl rfl,aB hg⟩
   rw[List.append_nil];exact h
theorem aG9 {A:Nat->Prop}(B:Nat) (w:World) (v x:Value) (zs ys:List Int) (h:aA5 B w v zs) (hx:bL A w x ys) (hB:B≤w.heap.size) (hp:0<zs.length\/0<ys.length) (hl:zs.length+ys.length≤1000000) :
    ∃g cap w',(Builtin.append_ #[22,22] 22 #[v,x]).run Tryz.prog w=.ok (.slice (some ⟨g,0,none⟩) (zs.length+ys.length) cap) w'/\
     aA5 B w' (.slice (some ⟨g,0,none⟩) (zs.length+ys.length) cap) (zs++ys)/\w.grownBy w' v.ownBlock/\(v.ownBlock=some g\/g=w.heap.size)/\g<w'.heap.size:=
 aP2 22 2 Tryz.underlying22 Tryz.infoI64 B w v x zs ys h hx hB hp hl
structure TO (B:Nat) (n:Nt) (w0 w:World) (bm g:Nat) (V:List Int) (v:Value) (zs:List Int):Prop where
 m:Lq B w bm g n V
 row:aA5 B w v zs
 f1:v.ownBlock≠some bm
 f2:v.ownBlock≠some g
 bl:Below B w0 w
 hB:B≤w.heap.size
theorem TO.below {B:Nat}{n:Nt}{w0 w w':World}{bm g:Nat}{V:List Int}{v:Value}{zs:List Int}(h:TO B n w0 w bm g V v zs) (hb:Below w.heap.size w w'):TO B n w0 w' bm g V v zs:=by
 obtain ⟨_,_,_,hk⟩:=h.row.form
 exact ⟨h.m.fr (Fr.of_below hb []) (by simp) (by simp) (by simp),h.row.keep fun k e=>hb.block k (hk k e).2,h.f1,h.f2,h.bl.trans (hb.mono h.hB),Nat.le_trans h.hB hb.size⟩
theorem TO.app {A:Nat->Prop}{B:Nat}{n:Nt}{w0 w:World}{bm g:Nat}{V:List Int}{v:Value}{zs:List Int}(h:TO B n w0 w bm g V v zs) (x:Value) (ys:List Int) (hx:bL A w x ys) (hp:0<zs.length\/0<ys.length) (hl:zs.length+ys.length≤1000000) :
    ∃g1 cap w',(Builtin.append_ #[22,22] 22 #[v,x]).run Tryz.prog w=.ok (.slice (some ⟨g1,0,none⟩) (zs.length+ys.length) cap) w'/\
     TO B n w0 w' bm g V (.slice (some ⟨g1,0,none⟩) (zs.length+ys.length) cap) (zs++ys)/\w.grownBy w' v.ownBlock:=by
 obtain ⟨g1,cap,w',hr,h2,h3,h4,h5⟩:=aG9 B w v x zs ys h.row hx h.hB hp hl
 obtain ⟨_,_,_,hk⟩:=h.row.form
 have hF:Fr w.heap.size v.ownBlock.toList w w':=⟨h3.os,h3.tape,h3.output,h3.size,fun b hb hx=>h3.block b hb (fun e=>hx (by rw[<-e];simp))⟩
 have hm:∀b,b∈v.ownBlock.toList->v.ownBlock=some b:=fun b hb=>by simpa using hb
 have e:∀b,(Value.slice (some ⟨g1,0,none⟩) (zs.length+ys.length) cap).ownBlock=some b↔g1=b:=fun b=>by simp[Value.ownBlock]
 have l1:=h.m.lt;have l2:=h.m.gl
 refine ⟨g1,cap,w',hr,⟨h.m.fr hF (fun hb=>h.f1 (hm _ hb)) (fun hb=>h.f2 (hm _ hb)) (fun b hb=>(hk b (hm b hb)).1),h2,fun hb=>?_,fun hb=>?_,?_,Nat.le_trans h.hB h3.size⟩,h3⟩
 ·have:=(e bm).1 hb
  rcases h4 with h4|h4
  ·exact h.f1 (this▸h4)
  ·omega
 ·have:=(e g).1 hb
  rcases h4 with h4|h4
  ·exact h.f2 (this▸h4)
  ·omega
 ·exact h.bl.trans (Gb hF h.hB (fun b hb=>(hk b (hm b hb)).1))
theorem TO.tick {B:Nat}{n:Nt}{w0 w:World}{bm g:Nat}{V:List Int}{v:Value}{zs:List Int}(h:TO B n w0 w bm g V v zs) (ins:List Int) (vi:Value) (hi:bL (· < B) w vi ins) (hf:Few n V) :
    Calls Tryz.prog 62 #[.pointer (some ⟨bm,0,none⟩),vi] w fun e w'=>∃vr,e=.returned vr/\Hid (∃g',TO B n w0 w' bm g' (after n V ins) v zs/\bL (fun b=>w.heap.size≤b/\b<g') w' vr (tells n V ins)/\Fr w.heap.size [bm,g] w w'/\g'<w'.heap.size):=by
 obtain ⟨_,_,_,hk⟩:=h.row.form
 have l1:=h.m.lt;have l2:=h.m.gl;have b1:=h.m.hb;have b2:=h.m.hg
 refine (wF B n V ins bm g vi w h.m hi hf).mono fun e w' ⟨vr,g',he,hM,hr,hF,hg1,hg2⟩=>⟨vr,he,g',⟨hM,h.row.keep fun k e=>hF.block k (hk k e).2 ?_,h.f1,fun e=>?_,?_,Nat.le_trans h.hB hF.size⟩,hr,hF,hg2⟩
 ·intro hm
  rcases List.mem_cons.1 hm with rfl|hm
  ·exact h.f1 e
  ·rw[List.mem_singleton.1 hm] at e;exact h.f2 e
 ·have:=(hk g' e).2;omega
 ·exact h.bl.trans (Gb hF h.hB (by simp;omega))
end Nx
end
section
open Go.RowKit
namespace Nx
theorem aE9 (ad:Option Addr) (b off n cap k:Nat) (hk:k<n) (ha:0<n->ad=some ⟨b,off,none⟩) (w:World):(Instr.indexAt 27 (.slice ad n cap) (.int .i64 (k:Int))).run Tryz.prog w=.ok (.pointer (some ⟨b,off+k,none⟩)) w:=by
 obtain rfl:=ha (by omega)
 rw[run_indexAt_slice _ _ _ _ _ _ _ (by kernel_rfl),if_pos ⟨by omega,by omega⟩]
 have e:(sizeOf (Tryz.prog.elem 27)).run Tryz.prog w=.ok 1 w:=by kernel_rfl
 rw[e]
 simp[Result.andThen,Addr.add]
theorem Vy (ad:Option Addr) (n cap:Nat) (w:World) (hn:40<n) :
    Calls Tryz.prog 8 #[.slice ad n cap] w fun e w'=>e=.returned (.bool false)/\w'=w:=by
 go_enter Tryz.func8,Tryz.ntmps8
 go_wp2
 go_ret
 exact ⟨rfl,rfl⟩
theorem Vz (ad:Option Addr) (n cap b off:Nat) (w:World) (L:Nat->Nat) (hn:n≤40) (ha:0<n->ad=some ⟨b,off,none⟩)
    (hc:∀k,k<n->∃a c,w.cell? ⟨b,off+k,none⟩=some (.slice a (L k) c)) :
    Calls Tryz.prog 8 #[.slice ad n cap] w fun e w'=>(e=.returned (.bool true)/\(∀k,k<n->L k≤30)\/e=.returned (.bool false)/\¬∀k,k<n->L k≤30)/\w'=w:=by
 have HA:Hid (0<n->ad=some ⟨b,off,none⟩):=ha
 have HC:Hid (∀k,k<n->∃a c,w.cell? ⟨b,off+k,none⟩=some (.slice a (L k) c)):=hc
 clear ha hc
 go_enter Tryz.func8,Tryz.ntmps8
 go_wp2
 go_loopw [3] (fun i wr=>∃k:Nat,k≤n/\i=.int .i64 k/\Hid (∀j,j<k->L j≤30)/\wr=w) (fun i _=>n-(intOf i).toNat)
 case atStart=>exact ⟨0,Nat.zero_le _,rfl,fun j hj=>by omega,rfl⟩
 case round=>
  obtain ⟨k,hk,rfl,HL,hw⟩:=hrel
  obtain rfl:=hw
  by_cases hlt:k<n
  ·have hix:=aE9 ad b off n cap k hlt HA.out
   obtain ⟨a,c,cx⟩:=HC.out k hlt
   obtain ⟨l,hl⟩:∃l,l=L k:=⟨_,rfl⟩
   rw[<-hl] at cx
   have HLK:Hid (l=L k):=hl
   clear hl
   by_cases h30:l≤30
   ·go_wp2
    go_roundw
    case rel=>exact ⟨k+1,by omega,by go_num,fun j hj=>by
     by_cases e:j=k
     ·subst e;rw[<-HLK.out];exact h30
     ·exact HL.out j (by omega),by first|trivial|rfl⟩
    case measure=>simp[intOf];omega
   ·go_wp2
    go_ret
    exact ⟨.inr ⟨rfl,fun hh=>h30 (by rw[HLK.out];exact hh k hlt)⟩,rfl⟩
  ·obtain rfl:k=n:=by omega
   go_wp2
   go_ret
   exact ⟨.inl ⟨rfl,HL.out⟩,rfl⟩
end Nx
end
section
open Go.RowKit
namespace Nx
theorem Bl (n:Nt) (w:World) (vF vI vO vK vN vC:Value) (rows:List (List Int)) (adr:Option Addr) (bR offR capR:Nat) (h:eQ w.heap.size w n vF vI vO vK vN vC) (hs:iR n) (hfl:n.first.length≤4000) (hol:n.outs.length≤4000) (hfew:∀V:List Int,V.length=n.first.length->Few n V) (hok:(fM n).1=0)
    (hrl:rows.length≤40) (hra:0<rows.length->adr=some ⟨bR,offR,none⟩/\bR<w.heap.size) (hrc:∀k,k<rows.length->∃u,w.cell? ⟨bR,offR+k,none⟩=some u/\bL (· < w.heap.size) w u (rows.getD k [])) :
    Calls Tryz.prog 33 #[.agg #[.int .i64 n.places,vF,vI,vO,vK,vN,vC],.slice adr rows.length capR] w fun e w'=>∃v,e=.returned (.tuple #[v,.bool true])/\bL (fun b=>w.heap.size≤b/\b<w'.heap.size) w' v (told n n.first rows rows.length)/\Below w.heap.size w w':=by
 have hnew:Calls Tryz.prog 61 #[.agg #[.int .i64 n.places,vF,vI,vO,vK,vN,vC]] (w.alloc (.cells #[.int .i64 n.places,vF,vI,vO,vK,vN,vC] 26)) fun e w'=>∃bm,e=.returned (.tuple #[.pointer (some ⟨bm,0,none⟩),.nilIface])/\Hid (∃g,TO w.heap.size n w w' bm g n.first (.slice none 0 0) []):=
  (Of w.heap.size n _ vF vI vO vK vN vC (h.below (aD w _) (Nat.le_refl _)) (aD w _).size hs (by omega) hok).mono fun e w' ⟨bm,g,he,hM,_,_,_,hb2⟩=>
   ⟨bm,he,g,⟨hM,qK.nil _ _ _,by simp[Value.ownBlock],by simp[Value.ownBlock],eX (aD w _) hb2,Nat.le_trans (aD w _).size hb2.size⟩⟩
 have HRA:Hid ((0<rows.length->adr=some ⟨bR,offR,none⟩/\bR<w.heap.size)/\(∀k,k<rows.length->∃u,w.cell? ⟨bR,offR+k,none⟩=some u/\bL (· < w.heap.size) w u (rows.getD k []))):=⟨hra,hrc⟩
 have HFW:Hid (∀V:List Int,V.length=n.first.length->Few n V):=hfew
 clear h hs hok hra hrc hfew
 go_enter Tryz.func33,Tryz.ntmps33
 go_wp2_with (go_at_call 61;refine hnew.mono ?_;rintro e w1 ⟨bm,rfl,X⟩)
 clear hnew
 go_loopw [8,9] (fun v i wr=>∃k:Nat,k≤rows.length/\i=.int .i64 k/\Hid (∃g,TO w.heap.size n w wr bm g (nW n n.first rows k) v (told n n.first rows k))) (fun _ i _=>rows.length-(intOf i).toNat)
 case atStart=>exact ⟨0,Nat.zero_le _,rfl,X.out⟩
 case round=>
  clear X
  obtain ⟨k,hk,rfl,TT⟩:=hrel
  by_cases hlt:k<rows.length
  ·have hix:=aE9 adr bR offR rows.length capR k hlt (fun h=>(HRA.out.1 h).1)
   obtain ⟨g,T0⟩:∃g,Hid (TO w.heap.size n w wr bm g (nW n n.first rows k) u8 (told n n.first rows k)):=TT.out
   obtain ⟨zs,hzs⟩:∃zs,zs=told n n.first rows k:=⟨_,rfl⟩
   obtain ⟨V,hV⟩:∃V,V=nW n n.first rows k:=⟨_,rfl⟩
   rw[<-hzs,<-hV] at T0
   have hzl:zs.length≤200000:=by
    rw[hzs,O9]
    have:=Nat.mul_le_mul hk (show n.outs.length+1≤4001 by omega)
    omega
   have HFV:Hid (Few n V):=HFW.out V (by rw[hV,Hh])
   obtain ⟨u,hu,hI⟩:=HRA.out.2 k hlt
   have hbR:=(HRA.out.1 (by omega)).2
   obtain ⟨z,hz⟩:∃z,z=rows.getD k []:=⟨_,rfl⟩
   rw[<-hz] at hI
   have HZ:Hid (told n n.first rows (k+1)=(zs++[(zs.length:Int)])++tells n V z):=by unfold Hid;rw[told,<-hzs,<-hV,<-hz]
   have HV':Hid (nW n n.first rows (k+1)=after n V z):=by unfold Hid;rw[nW,<-hV,<-hz]
   have HC:Hid (∀w',Below w.heap.size w w'->w'.cell? ⟨bR,offR+k,none⟩=some u/\bL (· < w.heap.size) w' u z):=fun w' hb=>⟨by rw[aV (hb.block bR hbR)];exact hu,hI.carry fun b hl _=>⟨hl,hb.block b hl⟩⟩
   have c0:=(HC.out wr T0.out.bl).1
   obtain ⟨ad,cap,hform,_⟩:=T0.out.row.form
   subst hform
   have hdr:Below wr.heap.size wr wr.drew:=⟨rfl,rfl,rfl,Nat.le_refl _,fun _ _=>rfl⟩
   have T0d:Hid (TO w.heap.size n w wr.drew bm g V (.slice ad zs.length cap) zs):=T0.out.below hdr
   have hda:Below wr.drew.heap.size wr.drew (wr.drew.alloc (.cells #[.int .i64 (zs.length:Int)] 2)):=aD _ _
   have T0a:Hid (TO w.heap.size n w (wr.drew.alloc (.cells #[.int .i64 (zs.length:Int)] 2)) bm g V (.slice ad zs.length cap) zs):=T0d.out.below hda
   have hone:∀(w':World) (q:Nat),w'.heap[q]?=some (.cells #[.int .i64 (zs.length:Int)] 2 (0,0))->bL (fun b=>b=q) w' (.slice (some ⟨q,0,none⟩) 1 1) [(zs.length:Int)]:=fun w' q hq=>
    ⟨some ⟨q,0,none⟩,q,0,1,rfl,fun _=>⟨rfl,rfl⟩,fun j hj=>by
     obtain rfl:j=0:=by simpa using hj
     exact aA hq 0⟩
   have HONE:Hid (∀(w':World) (q:Nat),w'.heap[q]?=some (.cells #[.int .i64 (zs.length:Int)] 2 (0,0))->bL (fun b=>b=q) w' (.slice (some ⟨q,0,none⟩) 1 1) [(zs.length:Int)]):=hone
   -- the first append ahead of the tick
   obtain ⟨g1,cap1,w2,E1,T1,-⟩:=T0a.out.app (.slice (some ⟨wr.drew.heap.size,0,none⟩) 1 1) [(zs.length:Int)] (hone _ _ (heap_alloc_new _ _)) (.inr (by simp)) (by simp;omega)
   have htA:=T1.tick z u (HC.out w2 T1.bl).2 HFV.out
   have T1:Hid (TO w.heap.size n w w2 bm g V (.slice (some ⟨g1,0,none⟩) (zs.length+1) cap1) (zs++[(zs.length:Int)])):=T1
   have htB:=T0d.out.tick z u (HC.out _ T0d.out.bl).2 HFV.out
   have htC:=T0a.out.tick z u (HC.out _ T0a.out.bl).2 HFV.out
   have hcw2:=(HC.out w2 T1.out.bl).1
   have hlz:(zs++[(zs.length:Int)]).length=zs.length+1:=by simp
   have HLZ:Hid ((zs++[(zs.length:Int)]).length=zs.length+1):=hlz
   have HOL:Hid ((tells n V z).length≤4000):=by unfold Hid;rw[tB];exact hol
   have HHA:Hid ((wr.drew.alloc (.cells #[.int .i64 (zs.length:Int)] 2)).heap[wr.drew.heap.size]?=some (.cells #[.int .i64 (zs.length:Int)] 2 (0,0))):=heap_alloc_new _ _
   clear TT hu hI hbR hz hzs hV hdr hda hone hlz
   go_wp2_with fail
   have HQL:Hid (bm<wr.drew.heap.size/\g<wr.drew.heap.size):=⟨T0d.out.m.lt,T0d.out.m.gl⟩
   have HOB:Hid (∀b,Value.ownBlock (.slice ad zs.length cap)=some b->b<wr.drew.heap.size):=fun b hb=>by obtain ⟨_,_,_,hk⟩:=T0d.out.row.form;exact (hk b hb).2
   go_region_held3 (fun w'=>w'.cell? ⟨bR,offR+k,none⟩=some u) (first|exact hS3|exact hS2|exact hS1|go_keep)
    ((first
      | (refine Q3 (by rfl) (.tmp 27) (.tmp 30) _ (by rfl) _ _ _ (by rfl) (by rfl) E1 ?_;have hS1:=hcw2)
      | (refine Q3 (by rfl) (.tmp 31) (.tmp 37) _ (by rfl) _ _ _ (by rfl) (by rfl) E2 ?_;have hS3:=hcw4)
      | (go_at_call 62;refine htA.mono ?_;rintro e w3 ⟨vr,rfl,Y⟩
         obtain ⟨g',T3,R3,-,-⟩:=Y.out
         obtain ⟨g4,cap4,w4,E2,T4,-⟩:=T3.app vr (tells n V z) R3 (.inl (by simp)) (by have:=HOL.out;have:=HLZ.out;omega)
         rw[HLZ.out] at E2 T4
         have hS2:=(HC.out w3 T3.bl).1
         have hcw4:=(HC.out w4 T4.bl).1
         have TZ:Hid (∃g,TO w.heap.size n w w4 bm g (after n V z) (.slice (some ⟨g4,0,none⟩) (zs.length+1+(tells n V z).length) cap4) ((zs++[(zs.length:Int)])++tells n V z)):=⟨_,T4⟩
         clear T3 R3 T4 Y htA htB htC E1)
      | (go_at_call 62;refine htB.mono ?_;rintro e w3 ⟨vr,rfl,Y⟩
         obtain ⟨g',T3,R3,-,-⟩:=Y.out
         have T3a:=T3.below (aD w3 (.cells #[.int .i64 (zs.length:Int)] 2))
         have R3a:=R3.carry (A':=fun b=>wr.drew.heap.size≤b/\b<w3.heap.size) (w':=w3.alloc (.cells #[.int .i64 (zs.length:Int)] 2)) (fun b hb hl=>⟨⟨hb.1,hl⟩,Below.heap_alloc _ _ _ hl⟩)
         obtain ⟨gx,capx,w5,E1x,T5,G5⟩:=T3a.app (.slice (some ⟨w3.heap.size,0,none⟩) 1 1) [(zs.length:Int)] (HONE.out _ _ (heap_alloc_new _ _)) (.inr (by simp)) (by simp;omega)
         have R5:=R3a.carry (A':=fun _=>True) (w':=w5) (fun b hb hl=>⟨trivial,G5.block b hl (fun e=>by have:=HOB.out b e.symm;omega)⟩)
         obtain ⟨g4,cap4,w4,E2,T4,-⟩:=T5.app vr (tells n V z) R5 (.inl (by simp)) (by have:=HOL.out;have:=HLZ.out;omega)
         rw[HLZ.out] at E2 T4
         have hS2:=(HC.out w3 T3.bl).1
         have hcw2:=(HC.out w5 T5.bl).1
         have hcw4:=(HC.out w4 T4.bl).1
         have E1:=E1x
         have TZ:Hid (∃g,TO w.heap.size n w w4 bm g (after n V z) (.slice (some ⟨g4,0,none⟩) (zs.length+1+(tells n V z).length) cap4) ((zs++[(zs.length:Int)])++tells n V z)):=⟨_,T4⟩
         clear T3 R3 T4 T3a R3a T5 G5 R5 E1x Y htA htB htC)
      | (go_at_call 62;refine htC.mono ?_;rintro e w3 ⟨vr,rfl,Y⟩
         obtain ⟨g',T3,R3,F3,-⟩:=Y.out
         have hq3:=(F3.block wr.drew.heap.size (by simp) (by have:=HQL.out;simp;omega)).trans HHA.out
         obtain ⟨gx,capx,w5,E1x,T5,G5⟩:=T3.app (.slice (some ⟨wr.drew.heap.size,0,none⟩) 1 1) [(zs.length:Int)] (HONE.out _ _ hq3) (.inr (by simp)) (by simp;omega)
         have R5:=R3.carry (A':=fun _=>True) (w':=w5) (fun b hb hl=>⟨trivial,G5.block b hl (fun e=>by have:=HOB.out b e.symm;have:=hb.1;simp at this;omega)⟩)
         obtain ⟨g4,cap4,w4,E2,T4,-⟩:=T5.app vr (tells n V z) R5 (.inl (by simp)) (by have:=HOL.out;have:=HLZ.out;omega)
         rw[HLZ.out] at E2 T4
         have hS2:=(HC.out w3 T3.bl).1
         have hcw2:=(HC.out w5 T5.bl).1
         have hcw4:=(HC.out w4 T4.bl).1
         have E1:=E1x
         have TZ:Hid (∃g,TO w.heap.size n w w4 bm g (after n V z) (.slice (some ⟨g4,0,none⟩) (zs.length+1+(tells n V z).length) cap4) ((zs++[(zs.length:Int)])++tells n V z)):=⟨_,T4⟩
         clear T3 R3 F3 T4 T5 G5 R5 E1x hq3 Y htA htB htC)))
   all_goals
    go_wp2_with fail
    go_roundw
    case rel=>exact ⟨k+1,by omega,by go_num,by rw[HZ.out,HV'.out];exact TZ.out⟩
    case measure=>simp[intOf];omega
  ·obtain rfl:k=rows.length:=by omega
   obtain ⟨g,T0⟩:∃g,Hid (TO w.heap.size n w wr bm g (nW n n.first rows rows.length) u8 (told n n.first rows rows.length)):=TT.out
   go_wp2
   go_ret2
   exact ⟨_,rfl,T0.out.row.ints,T0.out.bl⟩
end Nx
end
section
open Go.RowKit Go.Sort
namespace Nx
theorem Yy {A:Nat->Prop}{w:World}{v:Value}{zs:List Int}(h:bL A w v zs) (hA:∀b,A b->b<w.heap.size):bL (· < w.heap.size) w v zs:=h.carry fun b hb _=>⟨hA b hb,rfl⟩
theorem aN1 {A:Nat->Prop}{v:Value}{zs:List Int}{w:World}(h:bL A w v zs) (hl:zs.length≤100000) :
    Calls Tryz.prog 31 #[v] w fun e w'=>∃f c,e=.returned (.slice f zs.length c)/\Hid (Below w.heap.size w w'/\bL (fun b=>w.heap.size≤b/\b<w'.heap.size) w' (.slice f zs.length c) zs):=by
 refine (Gk v zs w h hl).mono fun e w' ⟨v',he,ho,hb⟩=>?_
 have hi:bL _ w' v' zs:=qK.ints (e:=2) (B:=w.heap.size) ho
 obtain ⟨f,_,_,c,rfl,_⟩:=id hi
 exact ⟨f,c,he,hb,hi⟩
theorem clI {A:Nat->Prop}{v:Value}{zs:List Int}{w:World}(h:bL A w v zs) (hl:zs.length≤100000) :
    Calls Tryz.prog 32 #[v] w fun e w'=>∃f c,e=.returned (.slice f zs.length c)/\Hid (Below w.heap.size w w'/\bL (fun b=>w.heap.size≤b/\b<w'.heap.size) w' (.slice f zs.length c) zs):=by
 have fin:∀(w':World) (v':Value),w'.ownsRow w.heap.size 3 1 v' zs.length (zs.map (Value.int .i64))->∃f c,v'=.slice f zs.length c/\bL (fun b=>w.heap.size≤b/\b<w'.heap.size) w' (.slice f zs.length c) zs:=fun w' v' ho=>by
  have hi:=qK.ints (e:=3) (B:=w.heap.size) ho
  obtain ⟨f,_,_,c,rfl,_⟩:=id hi
  exact ⟨f,c,rfl,hi⟩
 by_cases hp:0<zs.length
 ·refine (Rq v zs w h hl hp).mono fun e w' ⟨v',he,ho,_,hb⟩=>?_
  obtain ⟨f,c,rfl,hi⟩:=fin w' v' ho
  exact ⟨f,c,he,hb,hi⟩
 ·obtain rfl:zs=[]:=List.length_eq_zero_iff.1 (by omega)
  obtain ⟨ad,b,off,cap,rfl,-,-⟩:=h
  cases ad with
  | none=>exact (Tryz.slices_Clone_int_nil 0 cap w).mono fun e w' ⟨he,hw⟩=>⟨none,0,he,by rw[hw];exact Below.refl _ _,none,0,0,0,rfl,fun h=>absurd h (by simp),fun j hj=>absurd hj (by simp)⟩
  | some a=>
   refine (Tryz.slices_Clone_int_zero a cap w).mono fun e w' ⟨v',he,ho,_,hb⟩=>?_
   obtain ⟨f,c,rfl,hi⟩:=fin w' v' ho
   exact ⟨f,c,he,hb,hi⟩
structure pL (w:World) (adr:Option Addr) (bR offR:Nat) (rows:List (List Int)):Prop where
 few:rows.length≤40
 a:0<rows.length->adr=some ⟨bR,offR,none⟩/\bR<w.heap.size
 c:∀k,k<rows.length->∃u,w.cell? ⟨bR,offR+k,none⟩=some u/\bL (· < w.heap.size) w u (rows.getD k [])
theorem pL.below {w w':World}{adr:Option Addr}{bR offR:Nat}{rows:List (List Int)}(h:pL w adr bR offR rows) (hb:Below w.heap.size w w'):pL w' adr bR offR rows:=
 ⟨h.few,fun hp=>⟨(h.a hp).1,Nat.lt_of_lt_of_le (h.a hp).2 hb.size⟩,fun k hk=>by
  obtain ⟨u,h1,h2⟩:=h.c k hk
  exact ⟨u,aZ hb h1,h2.carry fun b hl _=>⟨Nat.lt_of_lt_of_le hl hb.size,hb.block b hl⟩⟩⟩
structure lX (n:Nt):Prop where
 p:0≤n.places/\n.places≤4000
 f:(n.first.length:Int)=n.places
 c:n.code.length≤4000
 m:n.nums.length≤4000
 l:n.ins.length+n.outs.length+n.keeps.length≤4000
 s:∀k,k<n.code.length->dI n.places n.nums.length (n.code.getD k iC)=0
 i:∀p∈n.ins,cH n.places p=true
 o:∀p∈n.outs,cH n.places p=true
 k:∀p∈n.keeps,cH n.places p=true
 d:n.ins.Nodup
theorem wU (P:Int) (nums:Nat):∀(l:List Sp) (i:Nat),(lB P nums l i).1=0->∀s∈l,dI P nums s=0
 | [],_,_,s,hs=>by cases hs
 | a::r,i,h,s,hs=>by
  rw[lB] at h
  split at h
  ·rename_i h0
   rcases List.mem_cons.1 hs with rfl|hs
   ·exact h0
   ·exact wU P nums r _ h s hs
  ·rename_i h0;exact absurd h h0
theorem D8 {n:Nt}(h:fM n=(0,-1)):lX n:=by
 unfold fM at h
 by_cases hw:cN n=0
 ·rw[if_pos hw] at h
  have hst:=wU _ _ _ _ (by rw[h])
  unfold cN at hw
  split at hw
  ·omega
  ·split at hw
   ·omega
   ·split at hw
    ·omega
    ·split at hw
     ·omega
     ·rename_i h1 h2 h3 h4
      have h3:=Classical.not_not.1 h3
      exact ⟨⟨by omega,by omega⟩,Classical.not_not.1 h2,by omega,by omega,by omega,fun k hk=>hst _ (by simp[List.getD_eq_getElem?_getD,hk]),List.all_eq_true.1 h3.1,List.all_eq_true.1 h3.2.1,List.all_eq_true.1 h3.2.2,Classical.not_not.1 h4⟩
 ·rw[if_neg hw] at h
  injection h with h
  exact absurd h hw
theorem D7 {n:Nt}(h:lX n):fM n=(0,-1):=by
 have hw:cN n=0:=by
  unfold cN
  have:=h.p;have:=h.c;have:=h.m;have:=h.l
  rw[if_neg (by omega),if_neg (fun e=>e h.f),if_neg (fun e=>e ⟨List.all_eq_true.2 h.i,List.all_eq_true.2 h.o,List.all_eq_true.2 h.k⟩),if_neg (fun e=>e h.d)]
 unfold fM
 rw[if_pos hw,oM _ _ _ h.s]
theorem lX.small {n:Nt}(h:lX n):iR n:=⟨by have:=h.p;omega,by have:=h.c;omega,by have:=h.m;omega,by have:=h.l;omega⟩
theorem lX.few {n:Nt}(h:lX n) (V:List Int) (hV:V.length=n.first.length):Few n V:=by
 have:=h.p;have:=h.f;have:=h.c;have:=h.l
 exact ⟨by omega,by omega,by omega,by omega,by omega⟩
theorem wH {n:Nt}{w:World}{vF vI vO vK vN vC:Value}{rows:List (List Int)}{adr:Option Addr}{bR offR:Nat}(capR:Nat) (hr:lX n) (h:eQ w.heap.size w n vF vI vO vK vN vC) (hR:pL w adr bR offR rows) :
    Calls Tryz.prog 33 #[.agg #[.int .i64 n.places,vF,vI,vO,vK,vN,vC],.slice adr rows.length capR] w fun e w'=>∃f c,e=.returned (.tuple #[.slice f (told n n.first rows rows.length).length c,.bool true])/\Hid (Below w.heap.size w w'/\bL (· < w'.heap.size) w' (.slice f (told n n.first rows rows.length).length c) (told n n.first rows rows.length)):=by
 have:=hr.p;have:=hr.f;have:=hr.l
 refine (Bl n w vF vI vO vK vN vC rows adr bR offR capR h hr.small (by omega) (by omega) hr.few (by rw[D7 hr]) hR.few hR.a hR.c).mono fun e w' ⟨v,he,hi,hb⟩=>?_
 have hi:=Yy hi fun b hb=>hb.2
 obtain ⟨f,_,_,c,rfl,_⟩:=id hi
 exact ⟨f,c,he,hb,hi⟩
theorem blk {w w':World}{b:Nat}{o:Obj}(h:Below w.heap.size w w') (hb:w.heap[b]?=some o):w'.heap[b]?=some o:=by rw[h.block b (aB hb)];exact hb
theorem aM8 {p q:Prop}(a:p) (b:q):Hid (p/\q):=⟨a,b⟩
theorem aM7 {p q r:Prop}(a:p) (b:q) (c:r):Hid (p/\q/\r):=⟨a,b,c⟩
theorem O8 {n m:Nt}(R:List Int->List Int->Prop) (h0:R n.first m.first) (hs:∀V V' ins,R V V'->tells m V' ins=tells n V ins/\R (after n V ins) (after m V' ins)) (rows:List (List Int)):∀k,told m m.first rows k=told n n.first rows k/\R (nW n n.first rows k) (nW m m.first rows k)
 | 0=>⟨rfl,h0⟩
 | k+1=>by
  obtain ⟨h1,h2⟩:=O8 R h0 hs rows k
  obtain ⟨h3,h4⟩:=hs _ _ (rows.getD k []) h2
  exact ⟨by rw[told,told,h1,h3],h4⟩
theorem Qp {w:World}{rows:List (List Int)}{adr:Option Addr}{bR offR:Nat}(capR:Nat) (ha:0<rows.length->adr=some ⟨bR,offR,none⟩/\bR<w.heap.size) (hc:∀k,k<rows.length->∃u,w.cell? ⟨bR,offR+k,none⟩=some u/\bL (· < w.heap.size) w u (rows.getD k [])) :
    Calls Tryz.prog 8 #[.slice adr rows.length capR] w fun e w'=>∃b,e=.returned (.bool b)/\w'=w/\Hid (b=true->pL w adr bR offR rows):=by
 by_cases h40:rows.length≤40
 ·refine (Vz adr rows.length capR bR offR w (fun k=>(rows.getD k []).length) h40 (fun h=>(ha h).1) fun k hk=>?_).mono fun e w' ⟨h,hw⟩=>?_
  ·obtain ⟨u,hu,ad,b,off,cap,rfl,_⟩:=hc k hk
   exact ⟨ad,cap,hu⟩
  ·rcases h with ⟨he,_⟩|⟨he,_⟩
   ·exact ⟨true,he,hw,fun _=>⟨h40,ha,hc⟩⟩
   ·exact ⟨false,he,hw,fun h=>by cases h⟩
 ·exact (Vy adr rows.length capR w (by omega)).mono fun e w' ⟨he,hw⟩=>⟨false,he,hw,fun h=>by cases h⟩
theorem lU {w:World}{T:TypeId}{p vF vI vO vK vN vC:Value}{b:Nat}(h:w.heap[b]?=some (.cells #[p,vF,vI,vO,vK,vN,vC] T (0,0))):w.cell? ⟨b,0,none⟩=some p/\w.cell? ⟨b,1,none⟩=some vF/\w.cell? ⟨b,2,none⟩=some vI/\w.cell? ⟨b,3,none⟩=some vO/\w.cell? ⟨b,4,none⟩=some vK/\w.cell? ⟨b,5,none⟩=some vN/\w.cell? ⟨b,6,none⟩=some vC:=
 ⟨aA h 0,aA h 1,aA h 2,aA h 3,aA h 4,aA h 5,aA h 6⟩
theorem Bu {n m:Nt}{w:World}{d1 d2 d3 d4 d5 d6 e1 e2 e3 e4 e5 e6:Option Addr}{k1 c1 k2 c2 k3 c3 k4 c4 k5 c5 k6 c6 l1 o1 l2 o2 l3 o3 l4 o4 l5 o5 l6 o6:Nat}{rows:List (List Int)}{adr:Option Addr}{bR offR:Nat}(capR:Nat) (hn:lX n) (hm:lX m) (hN:eQ w.heap.size w n (.slice d1 k1 c1) (.slice d2 k2 c2) (.slice d3 k3 c3) (.slice d4 k4 c4) (.slice d5 k5 c5) (.slice d6 k6 c6)) (hM:eQ w.heap.size w m (.slice e1 l1 o1) (.slice e2 l2 o2) (.slice e3 l3 o3) (.slice e4 l4 o4) (.slice e5 l5 o5) (.slice e6 l6 o6)) (hR:pL w adr bR offR rows) (ht:told m m.first rows rows.length=told n n.first rows rows.length) (hi:m.ins.length=n.ins.length) (ho:m.outs.length=n.outs.length) :
    Calls Tryz.prog 12 #[.agg #[.int .i64 n.places,.slice d1 k1 c1,.slice d2 k2 c2,.slice d3 k3 c3,.slice d4 k4 c4,.slice d5 k5 c5,.slice d6 k6 c6],.agg #[.int .i64 m.places,.slice e1 l1 o1,.slice e2 l2 o2,.slice e3 l3 o3,.slice e4 l4 o4,.slice e5 l5 o5,.slice e6 l6 o6],.slice adr rows.length capR] w fun e w'=>e=.returned (.bool true)/\Hid (Below w.heap.size w w'):=by
 have q2:k2=n.ins.length:=by obtain ⟨_,_,_,_,h,_⟩:=hN.i;injection h
 have q3:k3=n.outs.length:=by obtain ⟨_,_,_,_,h,_⟩:=hN.o;injection h
 have s2:l2=n.ins.length:=by obtain ⟨_,_,_,_,h,_⟩:=hM.i;rw[<-hi];injection h
 have s3:l3=n.outs.length:=by obtain ⟨_,_,_,_,h,_⟩:=hM.o;rw[<-ho];injection h
 obtain ⟨x2,hx2⟩:∃x,x=n.ins.length:=⟨_,rfl⟩
 obtain ⟨x3,hx3⟩:∃x,x=n.outs.length:=⟨_,rfl⟩
 rw[<-hx2] at q2 s2
 rw[<-hx3] at q3 s3
 subst q2 q3 s2 s3
 obtain ⟨pn,hpn⟩:∃p,p=n.places:=⟨_,rfl⟩
 obtain ⟨pm,hpm⟩:∃p,p=m.places:=⟨_,rfl⟩
 obtain ⟨U,hU⟩:∃U,U=w.alloc (.cells #[.int .i64 pn,.slice d1 k1 c1,.slice d2 l2 c2,.slice d3 l3 c3,.slice d4 k4 c4,.slice d5 k5 c5,.slice d6 k6 c6] 26):=⟨_,rfl⟩
 obtain ⟨W,hW⟩:∃W,W=U.alloc (.cells #[.int .i64 pm,.slice e1 l1 o1,.slice e2 l2 o2,.slice e3 l3 o3,.slice e4 l4 o4,.slice e5 l5 o5,.slice e6 l6 o6] 26):=⟨_,rfl⟩
 obtain ⟨q,hq⟩:∃q,q=w.heap.size:=⟨_,rfl⟩
 have sU:U.heap.size=q+1:=by rw[hU,hq];simp
 have bU:Below w.heap.size w U:=by rw[hU];exact aD _ _
 have bW:Below U.heap.size U W:=by rw[hW];exact aD _ _
 have kU:U.heap[q]?=some (.cells #[.int .i64 pn,.slice d1 k1 c1,.slice d2 l2 c2,.slice d3 l3 c3,.slice d4 k4 c4,.slice d5 k5 c5,.slice d6 k6 c6] 26 (0,0)):=by rw[hU,hq];exact heap_alloc_new _ _
 have kW:W.heap[q]?=some (.cells #[.int .i64 pn,.slice d1 k1 c1,.slice d2 l2 c2,.slice d3 l3 c3,.slice d4 k4 c4,.slice d5 k5 c5,.slice d6 k6 c6] 26 (0,0)):=by rw[bW.block q (by omega)];exact kU
 have kV:W.heap[q+1]?=some (.cells #[.int .i64 pm,.slice e1 l1 o1,.slice e2 l2 o2,.slice e3 l3 o3,.slice e4 l4 o4,.slice e5 l5 o5,.slice e6 l6 o6] 26 (0,0)):=by rw[hW,<-sU];exact heap_alloc_new _ _
 have bw:Below w.heap.size w W:=eX bU bW
 have HT:Hid (∀w1,Below w.heap.size w w1->eQ w1.heap.size w1 n (.slice d1 k1 c1) (.slice d2 l2 c2) (.slice d3 l3 c3) (.slice d4 k4 c4) (.slice d5 k5 c5) (.slice d6 k6 c6)/\eQ w1.heap.size w1 m (.slice e1 l1 o1) (.slice e2 l2 o2) (.slice e3 l3 o3) (.slice e4 l4 o4) (.slice e5 l5 o5) (.slice e6 l6 o6)/\pL w1 adr bR offR rows):=fun w1 hb=>⟨hN.below hb hb.size,hM.below hb hb.size,hR.below hb⟩
 have HM:Hid (lX m/\told m m.first rows rows.length=told n n.first rows rows.length/\pm=m.places):=⟨hm,ht,hpm⟩
 have ht1:=wH capR hn (HT.out W bw).1 (HT.out W bw).2.2
 obtain ⟨zs,hzs⟩:∃zs,zs=told n n.first rows rows.length:=⟨_,rfl⟩
 have HZ:Hid (zs.length≤1000000):=by
  unfold Hid
  rw[hzs,O9]
  have h1:=hR.few
  have h2:n.outs.length+1≤4001:=by have:=hn.l;omega
  have:=Nat.mul_le_mul h1 h2
  omega
 have HZE:Hid (zs=told n n.first rows rows.length):=hzs
 rw[<-hzs,<-hpn] at ht1
 obtain ⟨z,hz⟩:∃z,z=zs.length:=⟨_,rfl⟩
 rw[<-hz] at ht1
 have HZL:Hid (z=zs.length):=hz
 obtain ⟨a0,a1,a2,a3,a4,a5,a6⟩:=lU kW
 obtain ⟨b0,b1,b2,b3,b4,b5,b6⟩:=lU kV
 have HB:Hid (Below w.heap.size w W/\W.heap[q]?=some (.cells #[.int .i64 pn,.slice d1 k1 c1,.slice d2 l2 c2,.slice d3 l3 c3,.slice d4 k4 c4,.slice d5 k5 c5,.slice d6 k6 c6] 26 (0,0))/\W.heap[q+1]?=some (.cells #[.int .i64 pm,.slice e1 l1 o1,.slice e2 l2 o2,.slice e3 l3 o3,.slice e4 l4 o4,.slice e5 l5 o5,.slice e6 l6 o6] 26 (0,0))):=⟨bw,kW,kV⟩
 rw[hU] at hW
 rw[<-hpn,<-hpm]
 clear hn hm hN hM hR ht hi ho hx2 hx3 hpn hpm hU sU bU bW kU kW kV bw hzs hz
 go_enter Tryz.func12,Tryz.ntmps12
 go_upto_region 1 with fail
 rw[<-hW,<-hq]
 clear hW hq
 go_upto_region 2 with (go_at_call 33;refine ht1.mono ?_;rintro e w1 ⟨f1,g1,rfl,h1⟩;clear ht1)
 have h1b:=eX HB.out.1 h1.out.1
 have ht2:=wH capR HM.out.1 (HT.out w1 h1b).2.1 (HT.out w1 h1b).2.2
 rw[HM.out.2.1,<-HM.out.2.2,<-HZE.out,<-HZL.out] at ht2
 have H1:Hid (Below w.heap.size w w1/\bL (· < w1.heap.size) w1 (.slice f1 z g1) zs):=⟨h1b,h1.out.2⟩
 have j1:=blk h1.out.1 HB.out.2.1
 have j2:=blk h1.out.1 HB.out.2.2
 have HB1:=aM8 j1 j2
 clear a0 a1 a2 a3 a4 a5 a6 b0 b1 b2 b3 b4 b5 b6 h1 h1b
 obtain ⟨b0,b1,b2,b3,b4,b5,b6⟩:=lU j2
 clear j1 j2
 go_upto_region 3 with (go_at_call 33;refine ht2.mono ?_;rintro e w2 ⟨f2,g2,rfl,h2⟩;clear ht2)
 have j1:=blk h2.out.1 HB1.out.1
 have j2:=blk h2.out.1 HB1.out.2
 clear b0 b1 b2 b3 b4 b5 b6
 obtain ⟨-,-,a2,a3,-,-,-⟩:=lU j1
 obtain ⟨-,-,b2,b3,-,-,-⟩:=lU j2
 have hsame:=Mv (A:=fun b=>b<w1.heap.size) (A':=fun b=>b<w2.heap.size) _ _ zs w2 (H1.out.2.carry fun b hb hl=>⟨hb,h2.out.1.block b hl⟩) h2.out.2 HZ.out
 have HF:=aM7 (eX H1.out.1 h2.out.1) j1 j2
 clear j1 j2 h2
 go_wp2_with (go_at_call 34;refine hsame.mono ?_;rintro e w3 ⟨rfl,h3⟩;obtain ⟨-,-,x2,x3,-,-,-⟩:=lU (blk h3 HF.out.2.1);obtain ⟨-,-,y2,y3,-,-,-⟩:=lU (blk h3 HF.out.2.2))
 go_ret
 exact ⟨rfl,eX HF.out.1 h3⟩
end Nx
end
end Go.Proofs.YtcdbhoknhnimcaaGreatDoor
