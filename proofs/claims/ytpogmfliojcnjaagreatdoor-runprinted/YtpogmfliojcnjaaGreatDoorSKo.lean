import Derived.Test.YtpogmfliojcnjaaGreatDoorSUn
import Derived.Test.YtpogmfliojcnjaaGreatDoorSCk2
namespace Go.Proofs.YtpogmfliojcnjaaGreatDoor
section
open Go.RowKit Px
theorem tickC_cases {c:Chart}{ins:List Int}{r r':Rn}(h:tickC c ins r=some r'):∃p,allI (tickG r.was) c.regions c.regions.length 0 (hearE c.vars ins r.now) r.ds=some p/\r'=⟨p.1,p.1,p.2⟩:=by
 unfold tickC at h
 cases ha:allI (tickG r.was) c.regions c.regions.length 0 (hearE c.vars ins r.now) r.ds with
 | none=>rw[ha] at h;exact absurd h (by simp)
 | some p=>rw[ha] at h;injection h with h;exact ⟨p,rfl,h.symm⟩
section
variable {A Q:Nat->Prop}{w w':World}{c:Chart}{r r':Rn}{rb:Nat}{x:RnL}
set_option maxRecDepth 100000 in
set_option maxHeartbeats 8000000 in
theorem Tick_any {iv:Value}{ins:List Int}(h:RnM A w c r rb Q x) (hc:ChartR c) (hi:INums w iv ins) (h64:∀y∈ins,N64 y) (ht:tickC c ins r=some r') :
    Calls Tryz.prog 13 #[.pointer (some ⟨rb,0,none⟩),iv] w fun e w'=>∃a n m,e=.returned (.slice a n m)/\Hid (RnM A w' c r' rb Q x/\Row64 w.heap.size w' (.slice a n m) (outsC c r')/\FrQ Q w w'):=by
 obtain ⟨p,hall,rfl⟩:=tickC_cases ht
 obtain ⟨vv,aR,cR,hk,hvs,hRR⟩:=h.hv
 have hhear:=hear_any (cell_row hk 0 rfl) hvs hc.vn hi h64 h.runV (h.sep 0).chart h.rn h.wn
 obtain ⟨iad,ig,io,ic,hiv,_⟩:=hi
 subst hiv
 obtain ⟨n,hn⟩:∃n,n=c.regions.length:=⟨_,rfl⟩
 have hn6:(n:Int)≤9223372036854775807:=by have:=hc.rl;unfold maxLen at this;omega
 have H:Hid (RnM A w c r rb Q x/\ChartR c/\n=c.regions.length/\allI (tickG r.was) c.regions c.regions.length 0 (hearE c.vars ins r.now) r.ds=some p):=⟨h,hc,hn,hall⟩
 generalize ins.length=il at hhear
 clear h hc hall hvs hRR hn6 hk h64 ht hn
 have hn6:(n:Int)≤9223372036854775807:=by have:=H.out.2.1.rl;have:=H.out.2.2.1;unfold maxLen at *;omega
 go_enter Tryz.func13,Tryz.ntmps13
 go_wp2_with fail
 refine hhear.mono ?_
 rintro e w1 ⟨rfl,h1⟩
 have hR1:=H.out.1.setVars h1.out.2 h1.out.1
 have hf1:FrQ Q w w1:=FrQ.of_frp h1.out.2 (fun _ h=>h.elim) H.out.1.q1.1
 obtain ⟨vv1,aR,cR,hk1,hvs1,hRR1⟩:=hR1.hv
 have c3:=cell_row hk1 3 (u:=.slice aR c.regions.length cR) rfl
 rw[<-H.out.2.2.1] at c3 hRR1
 have HAR:Hid (0<n->aR=some ⟨x.gR,0,none⟩):=fun hp=>(hRR1 hp).1
 have H1:Hid (allI (tickG r.was) c.regions (n-0) 0 (hearE c.vars ins r.now) r.ds=some p/\RnM A w1 c ⟨hearE c.vars ins r.now,r.was,r.ds⟩ rb Q x/\FrQ Q w w1):=⟨by rw[Nat.sub_zero,H.out.2.2.1];exact H.out.2.2.2,hR1,hf1⟩
 clear hhear h1 hR1 hf1 hk1 hvs1 hRR1
 go_wp2_with fail
 clear c3
 go_loopg [17] n (fun f i wr=>∃(j:Nat) (nj:Px.Env) (ds:List (Rd 6)),f=n-j/\j≤n/\i=.int .i64 (j:Int)/\Hid (allI (tickG r.was) c.regions (n-j) j nj ds=some p/\RnM A wr c ⟨nj,r.was,ds⟩ rb Q x/\FrQ Q w wr))
 case atStart=>exact ⟨0,_,r.ds,by omega,by omega,rfl,H1.out⟩
 case round=>
  obtain ⟨j,nj,ds,rfl,hj,rfl,hr⟩:=hrel
  obtain ⟨hr1,hr2,hr3⟩:=hr.out
  by_cases hlt:j<n
  ·obtain ⟨L,hL⟩:∃L,c.regions[j]?=some L:=⟨c.regions[j]'(by rw[<-H.out.2.2.1];exact hlt),by rw[List.getElem?_eq_getElem]⟩
   rw[show n-j=n-(j+1)+1 by omega] at hr1
   obtain ⟨dj,q,hd,hq,hnx⟩:=allI_step hr1 hL
   obtain ⟨cj,hRj⟩:=hr2.reg j L dj hL hd
   have hix:=ixG aR x.gR n cR j hlt HAR.out
   have hsa:=H.out.2.1.st L (List.mem_of_getElem? hL)
   have hsep:=hr2.sep j
   have hrv:=hr2.runV
   have HN:Hid (∀w',RegM A 6 w' (fun b=>Q b/\x.rl b=4+j) L q.2 (x.gr j)/\RunV w' rb x.bn x.bw x.m (vnames c.vars) q.1 r.was/\FrP (fun b=>Q b/\x.rl b=4+j) x.bn wr w'->allI (tickG r.was) c.regions (n-(j+1)) (j+1) q.1 (ds.set j q.2)=some p/\RnM A w' c ⟨q.1,r.was,ds.set j q.2⟩ rb Q x/\FrQ Q w w'):=fun w' ⟨a1,a2,a3⟩=>
    ⟨hnx,hr2.region hL hd a3 a2 a1,hr3.trans (FrQ.of_frp a3 (fun _ hb=>hb.1) H.out.1.q1.1)⟩
   obtain ⟨l,hR⟩:=hRj
   have hcT:wr.cell? ⟨x.gr j,1,none⟩=some (pS l.gS (show RdF (Rd 5) from dj).there):=cell_row hR.hg 1 rfl
   unfold tickG at hq
   cases hth:(show RdF (Rd 5) from dj).there with
   | none=>
    rw[if_pos hth] at hq
    rw[hth] at hcT
    obtain ⟨pf,pw,cf,cw,-,hE⟩:=enter_ok A 6 false ⟨l,hR⟩ hsa hsep hrv hq
    have hcall:=hE (.inl rfl)
    unfold RegTo at hcall
    have hcN:wr.cell? ⟨x.gr j,1,none⟩=some (.pointer none):=hcT
    clear hr hr1 hr2 hr3 hL hd hq hnx hsa hsep hrv hR hcT hth hE cw H1
    go_wp2_with (refine hcall.mono ?_;rintro e w5 ⟨rfl,h5⟩)
    go_roundg (n-(j+1))
    case measure=>omega
    case rel=>exact ⟨j+1,q.1,ds.set j q.2,rfl,by omega,by go_num,HN.out w5 h5.out⟩
   | some i=>
    rw[if_neg (by rw[hth];simp)] at hq
    rw[hth] at hcT
    have hcall:=go_ok A 6 ⟨l,hR⟩ hsa hsep hrv hq
    unfold RegTo at hcall
    have hcN:wr.cell? ⟨x.gr j,1,none⟩=some (.pointer (some ⟨l.gS,i*11,none⟩)):=hcT
    clear hr hr1 hr2 hr3 hL hd hq hnx hsa hsep hrv hR hcT hth H1
    go_wp2_with (refine hcall.mono ?_;rintro e w5 ⟨rfl,h5⟩)
    go_roundg (n-(j+1))
    case measure=>omega
    case rel=>exact ⟨j+1,q.1,ds.set j q.2,rfl,by omega,by go_num,HN.out w5 h5.out⟩
  ·obtain rfl:j=n:=by omega
   rw[Nat.sub_self,allI] at hr1
   injection hr1 with hr1
   subst hr1
   have hrd:RnM A wr.drew c ⟨nj,r.was,ds⟩ rb Q x:=hr2.below (w':=wr.drew) ((Below.refl _ _).drew)
   have hcp:=mcopy_any hrd.mw hrd.mn hrd.wn hrd.hm
   obtain ⟨vv2,aR2,cR2,hk2,hvs2,_⟩:=hrd.hv
   have p1:=cell_row hk2 1 (u:=.map (some x.bn)) rfl
   have p2:=cell_row hk2 2 (u:=.map (some x.bw)) rfl
   have HG:Hid (RnM A wr.drew c ⟨nj,r.was,ds⟩ rb Q x/\FrQ Q w wr.drew):=⟨hrd,hr3.trans (FrQ.of_below ((Below.refl _ _).drew))⟩
   have HZ:Hid (∀w5,wr.drew.grownBy w5 (some x.bw)->w5.cell? ⟨rb,1,none⟩=some (.map (some x.bn))/\w5.cell? ⟨rb,2,none⟩=some (.map (some x.bw))):=fun w5 hg=>by
    have hb:w5.heap[rb]?=wr.drew.heap[rb]?:=hg.block rb (hrd.hQ rb hrd.q0.1) (fun e=>by injection e with e;have h1:=hrd.q0.2;have h2:=hrd.q2.2;rw[<-e] at h2;omega)
    exact ⟨by rw[World.cell?_of_block (w:=wr.drew) (a:=⟨rb,1,none⟩) hb];exact p1,by rw[World.cell?_of_block (w:=wr.drew) (a:=⟨rb,2,none⟩) hb];exact p2⟩
   clear hr hr2 hr3 hrd hk2 hvs2 H1
   go_upto_region 11 with fail
   go_region_held3 (fun W=>W.cell? ⟨rb,1,none⟩=some (.map (some x.bn))/\W.cell? ⟨rb,2,none⟩=some (.map (some x.bw))) (first|exact HZ5.out|go_keep)
    (first|(go_at_call 39;refine hcp.mono ?_;rintro e w5 ⟨rfl,h5⟩;have HZ5:Hid (w5.cell? ⟨rb,1,none⟩=some (.map (some x.bn))/\w5.cell? ⟨rb,2,none⟩=some (.map (some x.bw))):=HZ.out w5 h5.out.2.2))
   all_goals
    have hR5:=HG.out.1.setWas h5.out.2.2 h5.out.1
    have hf5:FrQ Q w w5:=HG.out.2.trans ⟨h5.out.2.2.os,h5.out.2.2.tape,h5.out.2.2.output,h5.out.2.2.size,fun b hb hq=>h5.out.2.2.block b hb (fun e=>hq (by injection e with e;rw[e];exact HG.out.1.q2.1))⟩
    obtain ⟨vv5,aR5,cR5,hk5,hvs5,_⟩:=hR5.hv
    have htell:=tellO_any (cell_row hk5 0 rfl) hvs5 H.out.2.1.vn H.out.2.1.vl hR5.runV
    have HR5:Hid (RnM A w5 c ⟨nj,nj,ds⟩ rb Q x/\FrQ Q w w5):=⟨hR5,hf5⟩
    clear hR5 hf5 hk5 hvs5 h5 p1 p2 hcp
    go_wp2_with fail
    refine htell.mono ?_
    rintro e w6 ⟨v6,rfl,h6⟩
    obtain ⟨a6,n6,m6,e6⟩:∃a n m,v6=.slice a n m:=by obtain ⟨a,m,e⟩:=owns_shape h6.out.1;exact ⟨a,_,m,e⟩
    subst e6
    clear htell
    go_wp2_with fail
    go_ret
    refine ⟨_,_,_,rfl,HR5.out.1.below h6.out.2,?_,HR5.out.2.trans (FrQ.of_below h6.out.2)⟩
    have h7:=h6.out.1
    obtain ⟨h8,h9⟩:=h7
    refine ⟨h8,?_⟩
    rcases h9 with h9|⟨g,cap,cur,e,hB,rest⟩
    ·exact .inl h9
    ·exact .inr ⟨g,cap,cur,e,Nat.le_trans HR5.out.2.size hB,rest⟩
end
end
section
open Go.RowKit Px
section
variable {A:Nat->Prop}{w w':World}
theorem SMem.mono {σ ρ:Type}{RM RM':(Nat->Prop)->List σ->ρ->Nat->Prop}{P P':Nat->Prop}{role:Nat->Role}{ns:List Str}{gS i:Nat}{s:StF σ}{x:SdF ρ}{gW gI:Nat}{gr:Nat->Nat}(h:SMem A w RM P role ns gS i s x gW gI gr) (hP:∀b,P b->P' b) (hR:∀{P P':Nat->Prop}{r:List σ}{d:ρ}{g:Nat},(∀b,P b->P' b)->RM P r d g->RM' P' r d g):SMem A w RM' P' role ns gS i s x gW gI gr:=by
 obtain ⟨c0,c2,e,d,l,p,⟨aw,cw,w1,w2⟩,wl,wm,⟨ai,ci,i1,i2⟩,il,im⟩:=h
 exact ⟨c0,c2,e,d,l,p,⟨aw,cw,w1,fun hp=>⟨(w2 hp).1,hP _ (w2 hp).2.1,(w2 hp).2.2⟩⟩,wl,wm,⟨ai,ci,i1,fun hp=>⟨(i2 hp).1,hP _ (i2 hp).2.1,(i2 hp).2.2⟩⟩,il,fun j r d hr hd=>⟨(im j r d hr hd).1,hR (fun b hb=>⟨hP b hb.1,hb.2⟩) (im j r d hr hd).2⟩⟩
theorem RegM.mono:∀(k:Nat) {P P':Nat->Prop}{L:List (St k)}{d:Rd k}{g:Nat},(∀b,P b->P' b)->RegM A k w P L d g->RegM A k w P' L d g:=by
 intro k
 induction k with
 | zero=>intro P P' L d g _ h;exact h.elim
 | succ k ih=>
  intro P P' L d g hP h
  obtain ⟨l,h⟩:=h
  exact ⟨l,⟨h.hg,h.hf,⟨hP _ h.pg.1,h.pg.2⟩,⟨hP _ h.ps.1,h.ps.2⟩,h.len,h.th,h.wa,fun i s x hs hx=>(h.st i s x hs hx).mono hP (fun hQ hr=>ih hQ hr)⟩⟩
def setL (w:World) (g o:Nat):List Value->World
 | []=>w
 | v::r=>setL (w.setCell ⟨g,o,none⟩ v) g (o+1) r
theorem setL_block (g b:Nat) (h:b≠g):∀(vs:List Value) (o:Nat) (w:World),(setL w g o vs).heap[b]?=w.heap[b]?:=by
 intro vs
 induction vs with
 | nil=>intro o w;rfl
 | cons v r ih=>intro o w;rw[setL,ih,Below.heap_setCell _ _ _ _ h]
theorem setL_out (g o':Nat):∀(vs:List Value) (o:Nat) (w:World),(o'<o\/o+vs.length≤o')->(setL w g o vs).cell? ⟨g,o',none⟩=w.cell? ⟨g,o',none⟩:=by
 intro vs
 induction vs with
 | nil=>intro o w _;rfl
 | cons v r ih=>
  intro o w h
  rw[List.length_cons] at h
  rw[setL,ih _ _ (by omega),sc_off (by omega)]
theorem setL_in (g:Nat):∀(vs:List Value) (o:Nat) (w:World),(∀j,j<vs.length->(w.cell? ⟨g,o+j,none⟩).isSome=true)->∀j v,vs[j]?=some v->(setL w g o vs).cell? ⟨g,o+j,none⟩=some v:=by
 intro vs
 induction vs with
 | nil=>intro o w _ j v h;simp at h
 | cons u r ih=>
  intro o w hc j v hj
  cases j with
  | zero=>
   simp at hj
   subst hj
   obtain ⟨x,hx⟩:=Option.isSome_iff_exists.1 (hc 0 (by simp))
   rw[setL,setL_out _ _ _ _ _ (.inl (by omega))]
   exact sc_same hx
  | succ j=>
   rw[setL]
   have:=ih (o+1) (w.setCell ⟨g,o,none⟩ u) (fun i hi=>?_) j v (by simpa using hj)
   ·rw[show o+(j+1)=o+1+j by omega];exact this
   ·rw[sc_off (by omega),show o+1+i=o+(i+1) by omega]
    exact hc (i+1) (by simp;omega)
theorem setL_frozen (g:Nat) (a:Addr):∀(vs:List Value) (o:Nat) (w:World),(setL w g o vs).frozen? a=w.frozen? a:=by
 intro vs
 induction vs with
 | nil=>intro o w;rfl
 | cons v r ih=>intro o w;rw[setL,ih,World.frozen?_setCell]
theorem setL_size (g:Nat):∀(vs:List Value) (o:Nat) (w:World),(setL w g o vs).heap.size=w.heap.size/\(setL w g o vs).os=w.os/\(setL w g o vs).tape=w.tape/\(setL w g o vs).output=w.output:=by
 intro vs
 induction vs with
 | nil=>intro o w;exact ⟨rfl,rfl,rfl,rfl⟩
 | cons v r ih=>
  intro o w
  obtain ⟨h1,h2,h3,h4⟩:=ih (o+1) (w.setCell ⟨g,o,none⟩ v)
  exact ⟨by rw[setL,h1];simp[World.setCell],h2,h3,h4⟩
end
def LayR:(k:Nat)->List (St k)->Prop
 | 0=>fun _=>False
 | k+1=>fun L=>firsts (ρ:=St k) L=1/\Dist (snames (ρ:=St k) L)/\(∀s∈(show List (StF (St k)) from L),∀y∈s.ways,∃t,fnd (snames (ρ:=St k) L) y.to=some t)/\List.length L≤1000000/\∀s∈(show List (StF (St k)) from L),s.name.length≤maxLen/\s.ways.length≤1000000/\s.regions.length≤1000000/\(∀y∈s.ways,y.to.length≤maxLen)/\∀r∈s.regions,LayR k r
def LayOk (A:Nat->Prop) (k:Nat):Prop:=∀{w:World}{r:List (St k)}{v:Value},(∀b,A b->b<w.heap.size)->IsStates A w k r v->LayR k r->
 Calls Tryz.prog 65 #[v] w fun e w'=>∃g,e=.returned (.pointer (some ⟨g,0,none⟩))/\Hid (RegM A k w' (fun b=>w.heap.size≤b/\b<w'.heap.size) r (layD k r) g/\Below w.heap.size w w')
structure LaidR (A:Nat->Prop) (k:Nat) (w w':World) (rs:List (List (St k))) (ad:Option Addr) (gI:Nat) (gr rol:Nat->Nat):Prop where
 had:0<rs.length->ad=some ⟨gI,0,none⟩/\w.heap.size≤gI/\gI<w'.heap.size/\rol gI=0
 reg:∀j r,rs[j]?=some r->w'.cell? ⟨gI,j,none⟩=some (.pointer (some ⟨gr j,0,none⟩))/\RegM A k w' (fun b=>w.heap.size≤b/\b<w'.heap.size/\rol b=1+j) r (layD k r) (gr j)
theorem IsStates.sl {A:Nat->Prop}{w:World}{k:Nat}{l:List (St k)}{v:Value}(h:IsStates A w k l v):∃a n c,v=.slice a n c:=by
 cases k with
 | zero=>obtain ⟨_,rfl⟩:=h;exact ⟨_,_,_,rfl⟩
 | succ k=>obtain ⟨xs,hr,_⟩:=h;obtain ⟨a,c,e⟩:=owns_shape hr.1;exact ⟨a,_,c,e⟩
theorem Tryz.uInfoReg:(Tryz.prog.info? 81).map (fun i=>(i.zero,i.size,i.bytes))=some (some (.pointer none),1,8):=by kernel_rfl
def ptrs (gr:Nat->Nat) (n:Nat):List Value:=(List.range n).map fun i=>.pointer (some ⟨gr i,0,none⟩)
theorem ptrs_snoc (gr:Nat->Nat) (n:Nat):ptrs gr (n+1)=ptrs gr n++[.pointer (some ⟨gr n,0,none⟩)]:=by unfold ptrs;rw[List.range_succ,List.map_append];rfl
theorem ptrs_same {gr gr':Nat->Nat}{n:Nat}(h:∀i,i<n->gr i=gr' i):ptrs gr n=ptrs gr' n:=by
 unfold ptrs
 apply List.map_congr_left
 intro i hi
 rw[h i (List.mem_range.1 hi)]
section
variable {A:Nat->Prop}{k:Nat}
set_option maxRecDepth 100000 in
set_option maxHeartbeats 8000000 in
theorem layAll_any (ih:LayOk A k) {w:World}{rs:List (List (St k))}{v:Value}(hA:∀b,A b->b<w.heap.size) (hI:IsRegs A w (IsStates A w k) rs v) (hR:∀r∈rs,LayR k r) (hl:rs.length≤1000000) :
    Calls Tryz.prog 35 #[v] w fun e w'=>∃ad n cap,e=.returned (.slice ad n cap)/\Hid (n=rs.length/\(∃gI gr rol,LaidR A k w w' rs ad gI gr rol)/\Below w.heap.size w w'):=by
 obtain ⟨i0,hi0,hz0,hz1,hz2⟩:=info_parts Tryz.uInfoReg
 obtain ⟨ad,g,cap,rfl,hmx,hg,hcs⟩:=hI.len
 obtain ⟨N,hN⟩:∃N,N=rs.length:=⟨_,rfl⟩
 rw[<-hN] at hg hl ⊢
 have HN:Hid (N=rs.length):=hN
 have HA:Hid (∀b,A b->b<w.heap.size):=hA
 have HG:Hid (0<N->ad=some ⟨g,0,none⟩/\g<w.heap.size):=hg
 have HCS:Hid (∀(i:Nat) (r:List (St k)),rs[i]?=some r->∃u,w.cell? ⟨g,i,none⟩=some u/\IsStates A w k r u):=hcs
 have HR:Hid (∀r∈rs,LayR k r):=hR
 have HIH:Hid (LayOk A k):=ih
 clear hI hR hA ih hN hg hcs hmx
 go_enter Tryz.func35,Tryz.ntmps35
 go_wp2_with fail
 go_loopg [3,8] N (fun f lv i wr=>∃(j:Nat) (gr rol:Nat->Nat),f=N-j/\j≤N/\i=.int .i64 (j:Int)/\Hid (wr.ownsRow w.heap.size 81 1 lv j (ptrs gr j)/\(∀b,lv.ownBlock=some b->rol b=0)/\(∀i r,i<j->rs[i]?=some r->RegM A k wr (fun b=>w.heap.size≤b/\b<wr.heap.size/\rol b=1+i) r (layD k r) (gr i))/\Below w.heap.size w wr))
 case atStart=>exact ⟨0,fun _=>0,fun _=>0,by omega,by omega,rfl,World.ownsRow_nil _ _ _ _,fun b hb=>rfl,fun i r hi=>absurd hi (by omega),Below.refl _ _⟩
 case round=>
  obtain ⟨j,gr,rol,rfl,hj,rfl,hr⟩:=hrel
  obtain ⟨hr1,hr2,hr3,hr4⟩:=hr.out
  obtain ⟨al,cl,e⟩:=owns_shape hr1
  subst e
  by_cases hlt:j<N
  ·obtain ⟨r,hrj⟩:∃r,rs[j]?=some r:=⟨rs[j]'(by rw[<-HN.out];exact hlt),by rw[List.getElem?_eq_getElem]⟩
   obtain ⟨u,cu,hSt⟩:=HCS.out j r hrj
   obtain ⟨ua,un,uc,rfl⟩:=hSt.sl
   have hix:=ixR ad g N cap j hlt (fun hp=>(HG.out hp).1)
   have cu:=ck_cell hr4 cu
   have hcall:=HIH.out (w:=wr) (fun b hb=>Nat.lt_of_lt_of_le (HA.out b hb) hr4.size) (IsStates.carry (A:=A) (A':=A) (fun b hb hlt=>⟨hb,hr4.block b hlt⟩) k r _ hSt) (HR.out r (List.mem_of_getElem? hrj))
   have HG1:Hid (wr.ownsRow w.heap.size 81 1 (.slice al j cl) j (ptrs gr j)/\(∀b,(Value.slice al j cl).ownBlock=some b->rol b=0)/\(∀i r,i<j->rs[i]?=some r->RegM A k wr (fun b=>w.heap.size≤b/\b<wr.heap.size/\rol b=1+i) r (layD k r) (gr i))/\Below w.heap.size w wr/\rs[j]?=some r):=⟨hr1,hr2,hr3,hr4,hrj⟩
   clear hr hr1 hr2 hr3 hr4 hSt hrj
   go_wp2_with fail
   refine hcall.mono ?_
   rintro e w1 ⟨g1,rfl,h1⟩
   have hown:w1.ownsRow w.heap.size 81 1 (.slice al j cl) j (ptrs gr j):=own_keep (A:=fun _=>True) (A':=fun _=>True) HG1.out.1 (fun _ _=>trivial) fun b _ hlt=>⟨trivial,h1.out.2.block b hlt⟩
   have hs1:w.heap.size≤w1.heap.size:=Nat.le_trans HG1.out.2.2.2.1.size h1.out.2.size
   have HAPP:Hid (∀v5 w5,w5.ownsRow w.heap.size 81 1 v5 (j+1) (ptrs gr j++[.pointer (some ⟨g1,0,none⟩)])->(w1.alloc (.cells #[.pointer (some ⟨g1,0,none⟩)] 81)).grownBy w5 (Value.slice al j cl).ownBlock->(v5.ownBlock=(Value.slice al j cl).ownBlock\/v5.ownBlock=some (w1.alloc (.cells #[.pointer (some ⟨g1,0,none⟩)] 81)).heap.size)->
       ∃gr' rol':Nat->Nat,w5.ownsRow w.heap.size 81 1 v5 (j+1) (ptrs gr' (j+1))/\(∀b,v5.ownBlock=some b->rol' b=0)/\(∀i r,i<j+1->rs[i]?=some r->RegM A k w5 (fun b=>w.heap.size≤b/\b<w5.heap.size/\rol' b=1+i) r (layD k r) (gr' i))/\Below w.heap.size w w5):=fun v5 w5 hown5 hgrow hat=>by
    obtain ⟨q1,q2,q3,q4,q5⟩:=HG1.out
    obtain ⟨p1,p2⟩:=h1.out
    have hsz:(w1.alloc (.cells #[.pointer (some ⟨g1,0,none⟩)] 81)).heap.size=w1.heap.size+1:=by simp
    have hob:∀b,(Value.slice al j cl).ownBlock=some b->w.heap.size≤b/\b<wr.heap.size:=fun b hb=>q1.lt b hb
    have hsw:=p2.size
    have hgs:=hgrow.size
    rw[hsz] at hgs
    have hbl:∀b,b<w1.heap.size->(Value.slice al j cl).ownBlock≠some b->w5.heap[b]?=w1.heap[b]?:=fun b hb hne=>by rw[hgrow.block b (by omega) (fun e=>hne e.symm),Below.heap_alloc _ _ _ hb]
    have hb5:Below w.heap.size w w5:=(((q4.trans (p2.mono q4.size))).alloc hs1 _).grown hgrow (by omega) (fun b hb=>(hob b hb).1)
    have hAb:∀b,A b->w5.heap[b]?=w1.heap[b]?:=fun b hb=>hbl b (Nat.lt_of_lt_of_le (HA.out b hb) hs1) (fun e=>by have:=hob b e;have:=HA.out b hb;omega)
    refine ⟨fun i=>if i=j then g1 else gr i,fun b=>if b<wr.heap.size then rol b else if b<w1.heap.size then 1+j else 0,?_,fun b hb=>?_,fun i r' hi hri=>?_,hb5⟩
    ·rw[ptrs_snoc,ptrs_same (gr':=gr) (fun i hi=>if_neg (by omega)),if_pos rfl];exact hown5
    ·show (if b<wr.heap.size then rol b else if b<w1.heap.size then 1+j else 0)=0
     rcases hat with e|e
     ·rw[e] at hb
      rw[if_pos (hob b hb).2]
      exact q2 b hb
     ·rw[e] at hb
      injection hb with hb
      rw[if_neg (by omega),if_neg (by omega)]
    ·by_cases hij:i=j
     ·subst hij
      rw[q5] at hri
      injection hri with hri
      subst hri
      show RegM A k w5 _ r (layD k r) (if i=i then g1 else gr i)
      rw[if_pos rfl]
      refine RegM.mono k (fun b hb=>?_) (RegM.keep k p1 (fun b hb _=>hAb b hb) (fun b hb=>hbl b hb.2 (fun e=>by have:=hob b e;omega)))
      have h4:=q4.size
      exact ⟨by omega,by omega,by show (if b<wr.heap.size then rol b else if b<w1.heap.size then 1+i else 0)=_;rw[if_neg (by omega),if_pos hb.2]⟩
     ·show RegM A k w5 _ r' (layD k r') (if i=j then g1 else gr i)
      rw[if_neg hij]
      have hold:=q3 i r' (by omega) hri
      refine RegM.mono k (fun b hb=>?_) (RegM.keep k hold (fun b hb hlt=>by rw[hAb b hb,p2.block b hlt]) (fun b hb=>by rw[hbl b (by omega) (fun e=>by have:=q2 b e;omega),p2.block b hb.2.1]))
      exact ⟨hb.1,by omega,by show (if b<wr.heap.size then rol b else if b<w1.heap.size then 1+j else 0)=_;rw[if_pos hb.2.1];exact hb.2.2⟩
   clear hcall h1 cu hix
   go_wp2_with (at_builtin;refine wpList_append_own_at _ rfl (.tmp 12) (.tmp 15) 76 rfl w.heap.size 81 i0 (.pointer none) 1 8 Tryz.underlying76 hi0 hz0 hz1 hz2 rfl (by decide) _ _ _ rfl (hown.alloc _) ⟨w1.heap.size,0,none⟩ 1 1 [.pointer (some ⟨g1,0,none⟩)] rfl rfl (cell_one_new _ _ _) (by intro u hu;simp at hu;subst hu;rfl) (by unfold maxLen;omega) (by omega) (by simp;omega) ?_;intro v5 w5 hown5 hgrow _ hat)
   go_roundg (N-(j+1))
   case measure=>omega
   case rel=>
    obtain ⟨gr',rol',t1,t2,t3,t4⟩:=HAPP.out v5 w5 hown5 hgrow hat
    exact ⟨j+1,gr',rol',rfl,by omega,by go_num,t1,t2,t3,t4⟩
  ·obtain rfl:j=N:=by omega
   have HF:Hid (j=rs.length/\(∃gI gr rol,LaidR A k w wr rs al gI gr rol)/\Below w.heap.size w wr):=by
    refine ⟨HN.out,?_,hr4⟩
    have hcell:=fun g hg=>World.ownsRow.cells hr1 (g:=g) hg
    have hlt':=fun g hg=>hr1.lt g hg
    rcases hr1.2 with ⟨e,h0⟩|⟨gI,cap',cur,e,_⟩
    ·refine ⟨0,gr,rol,fun hp=>absurd hp (by rw[<-HN.out,h0];omega),fun i r hi=>?_⟩
     have:=(List.getElem?_eq_some_iff.1 hi).1
     rw[<-HN.out,h0] at this
     omega
    ·injection e with e1 e2 e3
     subst e1
     refine ⟨gI,gr,rol,fun hp=>⟨rfl,(hlt' gI rfl).1,(hlt' gI rfl).2,hr2 gI rfl⟩,fun i r hi=>?_⟩
     have hil:i<j:=by rw[HN.out];exact (List.getElem?_eq_some_iff.1 hi).1
     refine ⟨?_,hr3 i r hil hi⟩
     have:=hcell gI rfl i (.pointer (some ⟨gr i,0,none⟩)) (by unfold ptrs;simp[hil])
     have ad:(⟨gI,0,none⟩:Addr).add i=⟨gI,i,none⟩:=by unfold Addr.add;split<;>simp_all
     rw[ad] at this
     exact this
   clear hr hr1 hr2 hr3 hr4
   go_wp2_with fail
   go_ret
   exact ⟨_,_,_,rfl,rfl,HF.out.2⟩
end
end
section
namespace Px
def posK (o:List Nat):Nat->Nat->Option Nat
 | 0,_=>none
 | p+1,k=>if o.getD p 0=k then some p else posK o p k
theorem posK_some {o:List Nat}:∀{p k q:Nat},posK o p k=some q->q<p/\o.getD q 0=k:=by
 intro p
 induction p with
 | zero=>intro k q h;simp[posK] at h
 | succ p ih=>
  intro k q h
  rw[posK] at h
  split at h
  ·rename_i he
   injection h with h
   subst h
   exact ⟨by omega,he⟩
  ·have:=ih h
   exact ⟨by omega,this.2⟩
def Once (o:List Nat):Prop:=∀p q,p<o.length->q<o.length->o.getD p 0=o.getD q 0->p=q
theorem posK_of {o:List Nat}(ho:Once o):∀{p q:Nat},q<p->p≤o.length->posK o p (o.getD q 0)=some q:=by
 intro p
 induction p with
 | zero=>intro q h _;omega
 | succ p ih=>
  intro q h hp
  rw[posK]
  split
  ·rename_i he
   rw[ho p q (by omega) (by omega) he]
  ·rename_i hne
   by_cases e:q=p
   ·subst e;exact absurd rfl hne
   ·exact ih (by omega) (by omega)
theorem getD_snoc_lt (o:List Nat) (j p:Nat) (hp:p<o.length):(o++[j]).getD p 0=o.getD p 0:=by
 rw[List.getD_eq_getElem?_getD,List.getD_eq_getElem?_getD,List.getElem?_append_left hp]
theorem getD_snoc (o:List Nat) (j:Nat):(o++[j]).getD o.length 0=j:=by
 rw[List.getD_eq_getElem?_getD,List.getElem?_append_right (Nat.le_refl _)];simp
theorem mem_getD (o:List Nat) (k:Nat):k∈o↔∃p,p<o.length/\o.getD p 0=k:=by
 constructor
 ·intro h
  obtain ⟨p,hp,he⟩:=List.getElem_of_mem h
  exact ⟨p,hp,by rw[List.getD_eq_getElem?_getD,List.getElem?_eq_getElem hp];exact he⟩
 ·rintro ⟨p,hp,rfl⟩
  rw[List.getD_eq_getElem?_getD,List.getElem?_eq_getElem hp]
  exact List.getElem_mem hp
theorem cntK_zero {G:List (List (Option Nat))}{T:List Bool}{j:Nat}:∀{k:Nat},cntK G T j k=0->∀i,i<k->T.getD i false=false->(G.getD i []).count (some j)=0:=by
 intro k
 induction k with
 | zero=>intro _ i h;omega
 | succ k ih=>
  intro h i hi ht
  rw[cntK] at h
  by_cases e:i=k
  ·subst e
   rw[ht] at h
   simp only[Bool.false_eq_true,if_false] at h
   omega
  ·exact ih (by omega) i (by omega) ht
structure Fair (G:List (List (Option Nat))) (o:List Nat) (T:List Bool):Prop where
 once:Once o
 told:∀k,k<G.length->(T.getD k false=true↔k∈o)
 low:∀k∈o,k<G.length
 len:T.length=G.length
 ahead:∀q,q<o.length->∀k,k<G.length->some (o.getD q 0)∈G.getD k []->∃p,p<q/\o.getD p 0=k
theorem fair_ordK {G:List (List (Option Nat))}:∀{r:Nat}{o:List Nat}{T:List Bool},ordK G r=some (o,T)->Fair G o T:=by
 intro r
 induction r with
 | zero=>
  intro o T h
  rw[ordK] at h
  injection h with h
  injection h with h1 h2
  subst h1;subst h2
  exact ⟨fun p q hp=>absurd hp (by simp),fun k _=>by rw[getD_repl];simp,by simp,by simp,fun q hq=>absurd hq (by simp)⟩
 | succ r ih=>
  intro o T h
  rw[ordK] at h
  split at h
  ·exact absurd h (by simp)
  ·rename_i o' T' hr
   split at h
   ·exact absurd h (by simp)
   ·rename_i j hj
    injection h with h
    injection h with h1 h2
    subst h1;subst h2
    have F:=ih hr
    obtain ⟨n1,n2,_⟩:=nextG_some hj
    unfold freeG at n2
    simp only[Bool.and_eq_true,Bool.not_eq_true',decide_eq_true_eq] at n2
    have hjo:j∉o':=fun hm=>by have:=(F.told j n1).2 hm;rw[n2.1] at this;simp at this
    refine ⟨?_,?_,?_,by rw[List.length_set];exact F.len,?_⟩
    ·intro p q hp hq he
     rw[List.length_append,List.length_singleton] at hp hq
     by_cases e1:p<o'.length
     ·by_cases e2:q<o'.length
      ·rw[getD_snoc_lt _ _ _ e1,getD_snoc_lt _ _ _ e2] at he
       exact F.once p q e1 e2 he
      ·obtain rfl:q=o'.length:=by omega
       rw[getD_snoc_lt _ _ _ e1,getD_snoc] at he
       exact absurd ((mem_getD _ _).2 ⟨p,e1,he⟩) hjo
     ·obtain rfl:p=o'.length:=by omega
      by_cases e2:q<o'.length
      ·rw[getD_snoc_lt _ _ _ e2,getD_snoc] at he
       exact absurd ((mem_getD _ _).2 ⟨q,e2,he.symm⟩) hjo
      ·omega
    ·intro k hk
     rw[set_getD T' j k (by rw[F.len];exact n1)]
     by_cases e:j=k
     ·subst e;simp
     ·rw[if_neg e,F.told k hk]
      simp[Ne.symm e]
    ·intro k hk
     rcases List.mem_append.1 hk with hk|hk
     ·exact F.low k hk
     ·rw[List.mem_singleton.1 hk];exact n1
    ·intro q hq k hk hm
     rw[List.length_append,List.length_singleton] at hq
     by_cases e:q<o'.length
     ·rw[getD_snoc_lt _ _ _ e] at hm
      obtain ⟨p,hp,he⟩:=F.ahead q e k hk hm
      exact ⟨p,hp,by rw[getD_snoc_lt _ _ _ (by omega)];exact he⟩
     ·obtain rfl:q=o'.length:=by omega
      rw[getD_snoc] at hm
      have hk1:k∈o':=by
       rw[<-F.told k hk]
       cases ht:T'.getD k false with
       | true=>rfl
       | false=>
        have:=cntK_zero n2.2 k hk ht
        exact absurd hm (List.count_eq_zero.1 this)
      obtain ⟨p,hp,he⟩:=(mem_getD _ _).1 hk1
      exact ⟨p,hp,by rw[getD_snoc_lt _ _ _ hp];exact he⟩
theorem few_below:∀(n:Nat) (o:List Nat),o.Nodup->(∀k∈o,k<n)->o.length≤n:=by
 intro n
 induction n with
 | zero=>
  intro o _ h
  cases o with
  | nil=>simp
  | cons a r=>exact absurd (h a (by simp)) (by omega)
 | succ n ih=>
  intro o hd h
  by_cases hm:n∈o
  ·have h1:=ih (o.erase n) (hd.erase n) (fun k hk=>by
    have h2:=(hd.mem_erase_iff).1 hk
    have:=h k h2.2
    have:=h2.1
    omega)
   have:=List.length_erase_of_mem hm
   omega
  ·have:=ih o hd (fun k hk=>by
    have:=h k hk
    have:k≠n:=fun e=>hm (e▸hk)
    omega)
   omega
theorem once_all:∀(n:Nat) (o:List Nat),Once o->(∀k∈o,k<n)->o.length=n->∀k,k<n->k∈o:=by
 intro n o ho hl hn k hk
 have hnd:o.Nodup:=by
  rw[List.nodup_iff_pairwise_ne,List.pairwise_iff_getElem]
  intro i j hi hj hij he
  have:=ho i j hi hj (by rw[List.getD_eq_getElem?_getD,List.getD_eq_getElem?_getD,List.getElem?_eq_getElem hi,List.getElem?_eq_getElem hj];exact congrArg (fun x=>(some x).getD 0) he)
  omega
 by_cases hm:k∈o
 ·exact hm
 ·have:=few_below n (k::o) (List.nodup_cons.2 ⟨hm,hnd⟩) (fun x hx=>by
   rcases List.mem_cons.1 hx with rfl|hx
   ·exact hk
   ·exact hl x hx)
  rw[List.length_cons] at this
  omega
theorem order_fair {G:List (List (Option Nat))}{o:List Nat}(h:orderG G=some o):o.length=G.length/\Once o/\(∀k∈o,k<G.length)/\(∀k,k<G.length->∃p,posK o o.length k=some p)/\∀k j,k<G.length->j<G.length->some j∈G.getD k []->∀p q,posK o o.length k=some p->posK o o.length j=some q->p<q:=by
 unfold orderG at h
 cases hk:ordK G G.length with
 | none=>rw[hk] at h;simp at h
 | some x=>
  obtain ⟨o',T⟩:=x
  rw[hk] at h
  simp at h
  subst h
  have F:=fair_ordK hk
  have hl:=(ordK_shut hk).2.1
  refine ⟨hl,F.once,F.low,fun k hk'=>?_,fun k j hk' hj hm p q hp hq=>?_⟩
  ·obtain ⟨p,hp,he⟩:=(mem_getD _ _).1 (once_all _ o' F.once F.low hl k hk')
   exact ⟨p,by rw[<-he];exact posK_of F.once hp (Nat.le_refl _)⟩
  ·obtain ⟨p1,p2⟩:=posK_some hp
   obtain ⟨q1,q2⟩:=posK_some hq
   obtain ⟨p',hp',he⟩:=F.ahead q q1 k hk' (by rw[q2];exact hm)
   have:=F.once p p' p1 (by omega) (by rw[p2,he])
   omega
section
variable {ρ:Type}
def namK (ns:List Str):Nat->Str->Option Nat
 | 0,_=>none
 | p+1,s=>if ns.getD p []=s then some p else namK ns p s
theorem namK_of {ns:List Str}(hd:Dist ns):∀{p q:Nat},q<p->p≤ns.length->namK ns p (ns.getD q [])=some q:=by
 intro p
 induction p with
 | zero=>intro q h _;omega
 | succ p ih=>
  intro q h hp
  rw[namK]
  split
  ·rename_i he
   rw[hd.inj (by omega) (by omega) he]
  ·rename_i hne
   by_cases e:q=p
   ·subst e;exact absurd rfl hne
   ·exact ih (by omega) (by omega)
theorem namK_fnd {ns:List Str}(hd:Dist ns) {s:Str}{i:Nat}(h:fnd ns s=some i):namK ns ns.length s=some i:=by
 obtain ⟨h1,h2,_⟩:=fnd_some h
 rw[<-h2]
 exact namK_of hd h1 (Nat.le_refl _)
theorem waysE_to {vs:List Decl}{ns:List Str}{b:Bool}:∀{l:List Wy},waysE vs ns b l=0->∀y∈l,∃i,fnd ns y.to=some i:=by
 intro l
 induction l with
 | nil=>intro _ y hy;simp at hy
 | cons a r ih=>
  intro h y hy
  rw[waysE] at h
  by_cases e:wayE vs ns b a=0
  ·rw[if_neg (by simp[e])] at h
   rcases List.mem_cons.1 hy with rfl|hy
   ·cases hf:fnd ns y.to with
    | some i=>exact ⟨i,rfl⟩
    | none=>unfold wayE at e;rw[hf] at e;simp at e
   ·exact ih h y hy
  ·rw[if_pos e] at h
   exact absurd h e
theorem stateE_to {vs:List Decl}{ns:List Str}{i:Nat}{s:StF ρ}(h:stateE vs ns i s=0):∀y∈s.ways,∃i,fnd ns y.to=some i:=by
 unfold stateE at h
 split at h
 ·simp at h
 ·unfold aloneE at h
  split at h
  ·simp at h
  ·split at h
   ·contradiction
   ·split at h
    ·contradiction
    ·split at h
     ·contradiction
     ·split at h
      ·simp at h
      ·exact waysE_to h
theorem statesE_ok {vs:List Decl}{R:List ρ->Nat->Res}{ns:List Str}:∀{l:List (StF ρ)}{i n m:Nat},statesE vs R ns l i n=.ok m->∀s∈l,(∃i,stateE vs ns i s=0)/\∃n m,regsE R s.regions n=.ok m:=by
 intro l
 induction l with
 | nil=>intro i n m _ s hs;simp at hs
 | cons a r ih=>
  intro i n m h s hs
  rw[statesE] at h
  split at h
  ·exact absurd h (by simp)
  ·rename_i he
   split at h
   ·exact absurd h (by simp)
   ·rename_i m' hm'
    rcases List.mem_cons.1 hs with rfl|hs
    ·exact ⟨⟨i,by omega⟩,_,_,hm'⟩
    ·exact ih h s hs
theorem regsE_ok {R:List ρ->Nat->Res}:∀{l:List (List ρ)}{n m:Nat},regsE R l n=.ok m->∀r∈l,∃n m,R r n=.ok m:=by
 intro l
 induction l with
 | nil=>intro n m _ r hr;simp at hr
 | cons a r ih=>
  intro n m h x hx
  rw[regsE] at h
  split at h
  ·exact absurd h (by simp)
  ·rename_i m' hm'
   rcases List.mem_cons.1 hx with rfl|hx
   ·exact ⟨_,_,hm'⟩
   ·exact ih h x hx
def OrdOk (l:List (StF ρ)):Prop:=∃o,orderG (graph l)=some o/\Dist (snames l)/\∀s∈l,∀y∈s.ways,∃i,fnd (snames l) y.to=some i
theorem regF_ok {vs:List Decl}{R:List ρ->Nat->Res}{l:List (StF ρ)}{n m:Nat}(h:regF vs R l n=.ok m):OrdOk l/\∀s∈l,∃n m,regsE R s.regions n=.ok m:=by
 unfold regF at h
 split at h
 ·exact absurd h (by simp)
 ·rename_i m' hs
  split at h
  ·exact absurd h (by simp)
  ·rename_i hw
   have hw:wholeE l=0:=by omega
   unfold wholeE at hw
   split at hw
   ·simp at hw
   ·split at hw
    ·simp at hw
    ·split at hw
     ·simp at hw
     ·rename_i ho
      cases hg:orderG (graph l) with
      | none=>rw[hg] at ho;simp at ho
      | some o=>exact ⟨⟨o,hg,regF_dist hs,fun s hs'=>by obtain ⟨⟨i,hi⟩,_⟩:=statesE_ok hs s hs';exact stateE_to hi⟩,fun s hs'=>(statesE_ok hs s hs').2⟩
end
def OrdAll:(k:Nat)->List (St k)->Prop
 | 0=>fun _=>False
 | k+1=>fun l=>OrdOk l/\∀s∈(l:List (StF (St k))),∀r∈StF.regions s,OrdAll k r
theorem regE_all {vs:List Decl}:∀{k:Nat}{l:List (St k)}{n m:Nat},regE vs k l n=.ok m->OrdAll k l:=by
 intro k
 induction k with
 | zero=>intro l n m h;simp[regE] at h
 | succ k ih=>
  intro l n m h
  obtain ⟨h1,h2⟩:=regF_ok (show regF vs (regE vs k) l n=.ok m from h)
  exact ⟨h1,fun s hs r hr=>by
   obtain ⟨n,m,hq⟩:=h2 s hs
   obtain ⟨n',m',hq'⟩:=regsE_ok hq r hr
   exact ih hq'⟩
theorem check_all {c:Chart}(h:checkC c=none):∀r∈c.regions,OrdAll 6 r:=by
 unfold checkC at h
 split at h
 ·exact absurd h (by simp)
 ·split at h
  ·exact absurd h (by simp)
  ·split at h
   ·exact absurd h (by simp)
   ·rename_i m hm
    intro r hr
    obtain ⟨n,m,hq⟩:=regsE_ok hm r hr
    exact regE_all hq
end Px
end
end Go.Proofs.YtpogmfliojcnjaaGreatDoor
