import Derived.Test.YthieaobjdpfcoaaGreatDoorVPregion2
set_option maxRecDepth 100000
set_option maxHeartbeats 8000000
namespace Go.Proofs.YthieaobjdpfcoaaGreatDoor
open Go.Proofs.Tryz (prog)
section
open Go.RowKit Px
theorem Tryz.infoDecl:(prog.info? 126).map (fun i=>(i.zero,i.size,i.bytes))=some (some (.agg #[.int .i64 0,.string ⟨#[]⟩,.int .i64 0]),3,32):=by kernel_rfl
structure CU (B cb:Nat) (w:World) (nm:bE) (vs:List bQ) (rs:List (List (St 6))) (v r:Value) (xv xr:List Value):Prop where
 at_:w.heap[cb]?=some (.cells #[sv nm,v,r] 47 (0,0))
 good:jS B w [iM vs v xv,dW 6 rs r xr]
theorem nH (vs:List bQ) (rs:List (List (St 6))) (v r:Value) (xv c:List Value):iW [iM vs v xv,dW 6 rs r c]:=by
 intro x hx A l w k j
 simp only[aW5,List.not_mem_nil,or_false] at hx
 rcases hx with rfl|rfl
 ·exact fun h=>h
 ·exact Nl j _ _ _ _
theorem CU.carry {B cb:Nat}{X:List Nat}{w w':World}{nm:bE}{vs:List bQ}{rs:List (List (St 6))}{v r:Value}{xv xr:List Value}(h:CU B cb w nm vs rs v r xv xr) (hX:∀x∈X,x<B) (hs:cb∉X) (hf:Fr w.heap.size X w w'):CU B cb w' nm vs rs v r xv xr:=
 ⟨by rw[hf.block cb (aB h.at_) hs];exact h.at_,h.good.carry (nH _ _ _ _ _ _) hX hf⟩
theorem CU.lts {B cb:Nat}{w:World}{nm:bE}{vs:List bQ}{rs:List (List (St 6))}{v r:Value}{xv xr:List Value}(h:CU B cb w nm vs rs v r xv xr):∀x∈[iM vs v xv,dW 6 rs r xr],∀g,x.v.ownBlock=some g->g<w.heap.size:=fun x hx g hg=>(h.good.block x hx g hg).2
theorem CU.grow_vars {B c:Nat}{w4 w5:World}{nm:bE}{vs:List bQ}{rs:List (List (St 6))}{v r j:Value}{xv k cs:List Value}{a:bQ}(h:CU B c w4 nm vs rs v r xv k) (I:c<B)
    (U:Jb a cs) (n:w5.ownsRow B 126 3 j ((vs++[a]).length) (xv++cs)) (O:w4.grownBy w5 v.ownBlock) (J:j.ownBlock=v.ownBlock\/j.ownBlock=some w4.heap.size) :
    CU B c (w5.setCell ⟨c,1,none⟩ j) nm (vs++[a]) rs j r (xv++cs) k:=by
 have l:jS B w4 ([]++iM vs v xv::[dW 6 rs r k]):=h.good
 have Y:iW ([]++iM vs v xv::[dW 6 rs r k]):=nH vs rs v r xv k
 have hold:Rows Jb vs xv:=l.has (iM vs v xv) (by simp)
 have D:=l.grow (s':=iM (vs++[a]) j (xv++cs)) Y O J n (Rows.append hold (Rows.one U))
 have y:=cU w5 c 1 j
 have u:=aB h.at_
 refine ⟨?_,jS.carry (X:=[c]) D (nH (vs++[a]) rs j r (xv++cs) k) (by simp;exact I) y⟩
 have s:w5.heap[c]?=some (.cells #[sv nm,v,r] 47 (0,0)):=by
  rw[O.block c u (fun Q=>by have:=((h.good.own (iM vs v xv) (by simp)).lt c Q.symm).1;omega)];exact h.at_
 rw[heap_setCell_same w5 c 1 _ 47 _ s];rfl
theorem CU.grow_regions {B k n:Nat}{w4 w5:World}{nm:bE}{vs:List bQ}{rs:List (List (St 6))}{v r j u:Value}{xv c:List Value}{a:List (St 6)}(h:CU B k w4 nm vs rs v r xv c) (Y:k<B) (hB:B≤n) (e:∀x∈[iM vs v xv,dW 6 rs r c],∀g,x.v.ownBlock=some g->g<n)
    (ha:aM (Ge n) w4 6 a u) (D:w5.ownsRow B 174 1 j ((rs++[a]).length) (c++[u])) (U:w4.grownBy w5 r.ownBlock) (y:j.ownBlock=r.ownBlock\/j.ownBlock=some w4.heap.size) :
    CU B k (w5.setCell ⟨k,2,none⟩ j) nm vs (rs++[a]) v j xv (c++[u]):=by
 have l:jS B w4 ([iM vs v xv]++dW 6 rs r c::[]):=h.good
 have hc:iW ([iM vs v xv]++dW 6 rs r c::[]):=nH vs rs v r xv c
 have kN:=oG (s':=dW 6 (rs++[a]) j (c++[u])) l e hB U y
 have Z:Yz (aM (sH B ([iM vs v xv]++dW 6 (rs++[a]) j (c++[u])::[])) w5 6) a [u]:=⟨u,rfl,aM.carry kN 6 _ _ ha⟩
 have hold:=Nl (kB (B:=B) (l1:=[iM vs v xv]) (l2:=[]) (s:=dW 6 rs r c) (s':=dW 6 (rs++[a]) j (c++[u])) U y) _ _ _ _ (l.has (dW 6 rs r c) (by simp))
 have Q:=l.grow (s':=dW 6 (rs++[a]) j (c++[u])) hc U y D (Rows.append hold (Rows.one Z))
 have O:=cU w5 k 2 j
 have J:=aB h.at_
 refine ⟨?_,jS.carry (X:=[k]) Q (nH vs (rs++[a]) v j xv (c++[u])) (by simp;exact Y) O⟩
 have I:w5.heap[k]?=some (.cells #[sv nm,v,r] 47 (0,0)):=by
  rw[U.block k J (fun e1=>by have:=((h.good.own (dW 6 rs r c) (by simp)).lt k e1.symm).1;omega)];exact h.at_
 rw[heap_setCell_same w5 k 2 _ 47 _ I];rfl
def iK (L:List Lx.fQ) (vs:List bQ) (rs:List (List (St 6))) (c i:Nat):Except F (Option (List bQ×List (List (St 6))×Nat×Nat)):=
 if dY (tx L i)≠0 then
  if 20≤vs.length then .error (4,pl L (i+1))
  else match dC L (dY (tx L i)) (i+1) with
   | .error x=>.error x
   | .ok (v,j)=>.ok (some (vs++[v],rs,c,j))
 else if tx L i=dL then
  match aW L 6 c (i+1) with
  | .error x=>.error x
  | .ok (l,c',j)=>.ok (some (vs,rs++[l],c',j))
 else .ok none
structure CE (C:dV) (B ba cb:Nat) (w:World):Prop where
 a:w.cell? ⟨ba,0,none⟩=some (.pointer (some ⟨C.rb,0,none⟩))
 la:ba<B
 lc:cb<B
 na:C.rb<ba
 nc:C.rb<cb
 nac:ba≠cb
 lr:C.rb<B
 hB:B≤w.heap.size
theorem CE.low {C:dV}{B j c:Nat}{w w':World}(h:CE C B j c w) (k:Fr B [C.rb,c] w w'):CE C B j c w':=by
 have l:=h.na
 have n:=h.nac
 exact ⟨by rw[k.cell (p:=⟨j,0,none⟩) h.la (by simp;omega)];exact h.a,h.la,h.lc,l,h.nc,n,h.lr,aO6 h.hB k.size⟩
def Jd (B cb:Nat) (w:World) (nm:bE) (vs:List bQ) (rs:List (List (St 6))):Prop:=∃v r xv xr,CU B cb w nm vs rs v r xv xr
def Vf (C:dV) (B ba cb i c:Nat) (nm:bE) (vs:List bQ) (rs:List (List (St 6))):Option (List bQ×List (List (St 6))×Nat×Nat)->Value->World->Prop
 | none,v,w'=>v=.bool false/\PS C w' i c 0 0/\CE C B ba cb w'/\Jd B cb w' nm vs rs
 | some (vs',rs',c',j),v,w'=>v=.bool true/\i<j/\vs'.length≤20/\rs'.length≤j/\PS C w' j c' 0 0/\CE C B ba cb w'/\Jd B cb w' nm vs' rs'
theorem Ti {L:List Lx.fQ}{i j:Nat}{n:Int}(h:first L i=.ok (n,j)):i≤j:=by
 rw[first] at h
 split at h
 ·split at h
  ·split at h
   ·exact absurd h (by simp)
   ·injection h with h;injection h with _ h;omega
  ·split at h
   ·exact absurd h (by simp)
   ·injection h with h;injection h with _ h;omega
 ·injection h with h;injection h with _ h;omega
theorem Y8 {L:List Lx.fQ}{kind i j:Nat}{v:bQ}(h:dC L kind i=.ok (v,j)):i<j:=by
 rw[dC] at h
 split at h
 ·exact absurd h (by simp)
 ·split at h
  ·exact absurd h (by simp)
  ·rename_i hf
   have:=Ti hf
   split at h
   ·injection h with h;injection h with _ h;omega
   ·exact absurd h (by simp)
theorem qP {C:dV}{w:World}{i st ins c:Nat}(h:PS C w i st ins c) (tb:ByteArray) (n:Nat) (j:Hid (dY (bs tb)=n)):Calls prog 105 #[.string tb] w fun e w'=>e=.returned (.int .i64 n)/\w'=w:=by
 refine (Fi tb w h.tab).mono ?_
 rintro e w' ⟨rfl,rfl⟩
 exact ⟨by rw[j.out],rfl⟩
theorem Ck {C:dV}{B k n:Nat}{w:World}{i c:Nat}{nm:bE}{vs:List bQ}{rs:List (List (St 6))}(h:PS C w i c 0 0) (j:CE C B k n w) (Y:Jd B n w nm vs rs) (hv:vs.length≤20) (hr:rs.length≤i) (Q:dY (tx C.L i)=0) (hn:tx C.L i≠dL):Calls prog 104 #[.pointer (some ⟨k,0,none⟩),.pointer (some ⟨n,0,none⟩)] w (lS B [C.rb,n] (Vf C B k n i c nm vs rs) w (iK C.L vs rs c i)):=by
 have _:=hv
 have _:=hr
 obtain ⟨v,r,xv,xr,Y⟩:=Y
 have ah:=h.wf.len
 have ai:=h.lt
 have hx:=j.a
 have O:=aO5 j.la j.hB
 have af:=j.hB
 have ad:=j.lr
 have ac:=j.lc
 have ae:=j.nc
 have ab:=j.na
 have aa:=j.nac
 have y:n∉[C.rb]:=by simp;omega
 have hX:∀x∈[C.rb],x<B:=by simp;omega
 have I:Hid (∀(W W':World),W.cell? ⟨k,0,none⟩=some (.pointer (some ⟨C.rb,0,none⟩))->k<W.heap.size->Fr W.heap.size [C.rb] W W'->W'.cell? ⟨k,0,none⟩=some (.pointer (some ⟨C.rb,0,none⟩))):=fun W W' h1 h2 hf=>by rw[hf.cell (p:=⟨k,0,none⟩) h2 (by simp;omega)];exact h1
 obtain ⟨tb,u⟩:∃tb:ByteArray,Hid (bs tb=tx C.L i):=⟨⟨(tx C.L i).toArray⟩,rfl⟩
 have U:Hid (dY (bs tb)=0):=by rw[Hid,u.out];exact Q
 have HN:Hid _:=hn
 have e:Hid (iK C.L vs rs c i=.ok none):=by rw[Hid,iK,if_neg (by rw[Q];simp),if_neg hn]
 clear Q hn
 go_enter Tryz.func104,Tryz.ntmps104
 go_wp2_with (first
  | (go_at_call 106;refine (eI h tb u).mono ?_;rintro e1 w1 ⟨rfl,s,l⟩;have hx1:=I.out _ _ hx O l.wide;have ag:=l.size)
  | (go_at_call 105;refine (qP s tb 0 U).mono ?_;rintro e1 w2 ⟨rfl,J⟩;obtain rfl:=J.symm)
  | (go_at_call 109;refine (cN s ⟨#[114,101,103,105,111,110]⟩ HN.out).mono ?_;rintro e1 w3 ⟨rfl,X,D⟩))
 go_ret
 rw[e.out]
 have Z:Fr w.heap.size [C.rb] w w3:=(l.wide).up D.wide
 exact ⟨_,rfl,⟨rfl,X,j.low (Z.mono j.hB (by simp)),_,_,_,_,Y.carry hX y Z⟩,Z.mono j.hB (by simp)⟩
theorem Cl {C:dV}{B u D:Nat}{w:World}{i c:Nat}{nm:bE}{vs:List bQ}{rs:List (List (St 6))}(h:PS C w i c 0 0) (j:CE C B u D w) (Z:Jd B D w nm vs rs) (hv:vs.length≤20) (hr:rs.length≤i) (O:dY (tx C.L i)≠0) (n:20≤vs.length):Calls prog 104 #[.pointer (some ⟨u,0,none⟩),.pointer (some ⟨D,0,none⟩)] w (lS B [C.rb,D] (Vf C B u D i c nm vs rs) w (iK C.L vs rs c i)):=by
 have _:=hv
 have _:=hr
 obtain ⟨v,r,xv,xr,Z⟩:=Z
 have aw:=h.wf.len
 have ax:=h.lt
 have hx:=j.a
 have J:=aO5 j.la j.hB
 have ar:=j.hB
 have ak:=j.lr
 have aj:=j.lc
 have al:=j.nc
 have ai:=j.na
 have ah:=j.nac
 have Y:D∉[C.rb]:=by simp;omega
 have hX:∀x∈[C.rb],x<B:=by simp;omega
 have I:Hid (∀(W W':World),W.cell? ⟨u,0,none⟩=some (.pointer (some ⟨C.rb,0,none⟩))->u<W.heap.size->Fr W.heap.size [C.rb] W W'->W'.cell? ⟨u,0,none⟩=some (.pointer (some ⟨C.rb,0,none⟩))):=fun W W' h1 h2 hf=>by rw[hf.cell (p:=⟨u,0,none⟩) h2 (by simp;omega)];exact h1
 obtain ⟨tb,U⟩:∃tb:ByteArray,Hid (bs tb=tx C.L i):=⟨⟨(tx C.L i).toArray⟩,rfl⟩
 obtain ⟨kd,Q⟩:∃x,Hid (dY (bs tb)=x):=⟨_,rfl⟩
 have ap:kd≠0:=by rw[<-Q.out,U.out];exact O
 have am:(((kd:Nat):Int) != 0)=true:=by simp;omega
 have s:tx C.L i≠[]:=fun e=>by rw[e] at O;exact O (by decide)
 have af:=h.wf.next h.lt s
 have ad:Hid (iK C.L vs rs c i=.error (4,pl C.L (i+1))):=by rw[Hid,iK,if_pos O,if_pos n]
 have ab:w.ownsRow B 126 3 v vs.length xv:=Z.good.own (iM vs v xv) (by simp)
 obtain ⟨ao,cap,rfl⟩:=aP ab
 clear O s
 go_enter Tryz.func104,Tryz.ntmps104
 go_wp2_with (first
  | (go_at_call 106;refine (eI h tb U).mono ?_;rintro e1 w1 ⟨rfl,k,y⟩;have hx1:=I.out _ _ hx J y.wide;have au:=y.size)
  | (go_at_call 105;refine (qP k tb kd Q).mono ?_;rintro e1 w2 ⟨rfl,aa⟩;obtain rfl:=aa.symm;obtain ⟨-,d1,-⟩:=k.cells;have z1:=k.frozen 1;obtain ⟨ac,ag⟩:=k.step af;have l:=(y.wide (X:=[C.rb])).up ag;have ae:=Z.carry hX Y l;have an:=I.out _ _ hx J l;obtain ⟨y2,-⟩:=lU ae.at_ 1 (Value.slice ao vs.length cap) rfl;have av:=l.size)
  | (go_at_call 107;refine (nZ ac vs.length 20 n).mono ?_;rintro e1 w3 ⟨q,rfl,hq⟩;exact ⟨rfl,by rw[ad.out];exact aR.x ⟨q,rfl,hq⟩ (l.mono j.hB (by simp)) (by omega) (by simp)⟩))
theorem Gp {C:dV}{B ba u:Nat}{w:World}{i c:Nat}{nm:bE}{vs:List bQ}{rs:List (List (St 6))}(h:PS C w i c 0 0) (y:CE C B ba u w) (hU:Jd B u w nm vs rs) (hv:vs.length≤20) (hr:rs.length≤i) (hk:dY (tx C.L i)≠0) (cd:¬20≤vs.length):Calls prog 104 #[.pointer (some ⟨ba,0,none⟩),.pointer (some ⟨u,0,none⟩)] w (lS B [C.rb,u] (Vf C B ba u i c nm vs rs) w (iK C.L vs rs c i)):=by
 have _:=hv
 have _:=hr
 obtain ⟨v,r,xv,xr,hU⟩:=hU
 have ch:=h.wf.len
 have cn:=h.lt
 have hx:=y.a
 have ah:=aO5 y.la y.hB
 have O:=y.hB
 have bc:=y.lr
 have ar:=y.lc
 have av:=y.nc
 have ca:=y.na
 have bz:=y.nac
 have Q:u∉[C.rb]:=by simp;omega
 have hX:∀x∈[C.rb],x<B:=by simp;omega
 have Z:Hid (∀(W W':World),W.cell? ⟨ba,0,none⟩=some (.pointer (some ⟨C.rb,0,none⟩))->ba<W.heap.size->Fr W.heap.size [C.rb] W W'->W'.cell? ⟨ba,0,none⟩=some (.pointer (some ⟨C.rb,0,none⟩))):=fun W W' h1 h2 hf=>by rw[hf.cell (p:=⟨ba,0,none⟩) h2 (by simp;omega)];exact h1
 obtain ⟨tb,ag⟩:∃tb:ByteArray,Hid (bs tb=tx C.L i):=⟨⟨(tx C.L i).toArray⟩,rfl⟩
 obtain ⟨i0,hi,bk,au,bi⟩:=aZ1 Tryz.infoDecl
 obtain ⟨kd,ab⟩:∃x,Hid (dY (bs tb)=x):=⟨_,rfl⟩
 have cj:kd≠0:=by rw[<-ab.out,ag.out];exact hk
 have ci:(((kd:Nat):Int) != 0)=true:=by simp;omega
 have U:tx C.L i≠[]:=fun e=>by rw[e] at hk;exact hk (by decide)
 have bu:=h.wf.next h.lt U
 have ax:Hid (dY (tx C.L i)=kd):=by rw[Hid,<-ag.out];exact ab.out
 have bv:∀f,Hid (dC C.L kd (i+1)=.error f)->Hid (iK C.L vs rs c i=.error f):=fun f hr=>by rw[Hid,iK,if_pos hk,if_neg (by omega),ax.out,hr.out]
 have bw:∀x j,Hid (dC C.L kd (i+1)=.ok (x,j))->Hid (iK C.L vs rs c i=.ok (some (vs++[x],rs,c,j))):=fun x j hr=>by rw[Hid,iK,if_pos hk,if_neg (by omega),ax.out,hr.out]
 have bo:w.ownsRow B 126 3 v vs.length xv:=hU.good.own (iM vs v xv) (by simp)
 obtain ⟨ao,cap,rfl⟩:=aP bo
 clear hk U
 go_enter Tryz.func104,Tryz.ntmps104
 go_upto_region 6 with (first
  | (go_at_call 106;refine (eI h tb ag).mono ?_;rintro D w1 ⟨rfl,I,aj⟩;have hx1:=Z.out _ _ hx ah aj.wide;have cm:=aj.size)
  | (go_at_call 105;refine (qP I tb kd ab).mono ?_;rintro D w2 ⟨rfl,bh⟩;obtain rfl:=bh.symm;obtain ⟨-,d1,-⟩:=I.cells;have z1:=I.frozen 1;obtain ⟨an,bb⟩:=I.step bu;have n:=(aj.wide (X:=[C.rb])).up bb;have ac:=hU.carry hX Q n;have be:=Z.out _ _ hx ah n;obtain ⟨y2,-⟩:=lU ac.at_ 1 (Value.slice ao vs.length cap) rfl;have br:=n.size)
  | (go_at_call 107;refine (kD (C:=C) vs.length 20 (by omega)).mono ?_;rintro D w3 ⟨rfl,bg⟩;obtain rfl:=bg.symm))
 clear d1 z1
 generalize (w1.setCell ⟨C.rb,1,none⟩ (.int .i64 ((i:Int)+1)))=w2 at an bb n ac be y2 br ⊢
 have hdr:Fr w2.heap.size [] w2 w2.drew:=(Fr.refl _ _ _).drew
 have az:=an.same hdr
 have am:=aO6 O n.size
 go_region_law
  (first
   | (refine step_append_lies _ (by rfl) _ _ _ (by rfl) B 126 i0 _ 3 32 Tryz.underlying44 hi bk au bi rfl (by omega) (Value.slice ao vs.length cap) vs.length xv (by rfl) (s.good.own (iM vs _ xv) (by simp))
         ⟨l.heap.size,0,none⟩ 1 1 [.int .i64 a4.kind,sv a4.name,.int .i64 a4.first] (by rfl) (by rfl) (World.news_of_block (fr:=(0,0)) (heap_alloc_new l _)) (by intro x hx;simp[sv] at hx;rcases hx with rfl|rfl|rfl<;>rfl)
         (by omega) (by unfold maxLen;omega) (by omega) (by simp;omega) (l.heap.size+1) (by simp) ?_
      intro gg aw af ad k bn cc
      have ai:∀g,(Value.slice ao vs.length cap).ownBlock=some g->B≤g:=fun g hg=>((s.good.own (iM vs _ xv) (by simp)).lt g hg).1
      have bp:=CU.grow_vars (a:=a4) s ar rfl (by rw[aO9];exact ad) k (by rcases bn with D|D;exact .inl D.symm;exact .inr (by rw[D];simp[Value.ownBlock]))
      have bf:Fr B [C.rb,u] w af:=(((ae.mono O (by simp)).alloc ay _).grown k (by simp;omega) (fun g hg=>.inl (ai g hg)))
      have al:PS C af j4 c 0 0:=ap.low bc (((Fr.refl B [] l).alloc ay _).grown k (by simp;omega) (fun g hg=>.inl (ai g hg)))
      have bq:af.heap[u]?=some (.cells #[sv nm,Value.slice ao vs.length cap,r] 47 (0,0)):=by
       rw[k.block u (by simp;omega) (fun D=>by have:=ai _ D.symm;omega)];exact s.at_
      obtain ⟨y5,co⟩:=lU bq 1 (Value.slice ao vs.length cap) rfl)
   | (go_simp
      go_at_call 108
      refine (J1 az kd).mono ?_
      rintro D l h4
      rcases h4.cases with ⟨f,J,q,rfl,hq⟩|⟨⟨a4,j4⟩,v4,J,rfl,⟨bm,ap⟩,Y⟩
      ·exact ⟨rfl,by rw[(bv _ J).out];exact aR.x ⟨q,rfl,hq⟩ ((n.mono O (by simp)).drew) am (by simp)⟩
      subst bm
      have aa:=ac.carry hX Q (hdr.wide.up Y)
      have ae:=n.up (hdr.wide.up Y)
      have cf:=Z.out _ _ hx ah ae
      obtain ⟨y4,ce⟩:=lU aa.at_ 1 (Value.slice ao vs.length cap) rfl
      have cg:=aB aa.at_
      have ay:=aO6 O ae.size
      have ck:=Y8 J.out
      have bj:Fr l.heap.size [] l (l.alloc (.cells #[.int .i64 a4.kind,.string ⟨a4.name.toArray⟩,.int .i64 a4.first] 126)):=(Fr.refl _ _ _).alloc (aO4 _) _
      have s:=aa.carry (X:=[]) (by simp) (by simp) bj
      simp only[sv] at s ⊢))
 all_goals
  go_wp2_with fail
  go_ret
  rw[(bw _ _ J).out]
  have ak:=bf.setCell (p:=⟨u,1,none⟩) (.inr (by simp)) (.slice (some ⟨gg,0,none⟩) (vs.length+1) aw)
  exact ⟨_,rfl,⟨rfl,by omega,by simp;omega,by omega,al.put av _ _,y.low ak,_,_,_,_,bp⟩,ak⟩
theorem Gq {C:dV}{B ba y:Nat}{w:World}{i c:Nat}{nm:bE}{vs:List bQ}{rs:List (List (St 6))}(h:PS C w i c 0 0) (D:CE C B ba y w) (hU:Jd B y w nm vs rs) (hv:vs.length≤20) (hr:rs.length≤i) (hk:dY (tx C.L i)=0) (hn:tx C.L i=dL):Calls prog 104 #[.pointer (some ⟨ba,0,none⟩),.pointer (some ⟨y,0,none⟩)] w (lS B [C.rb,y] (Vf C B ba y i c nm vs rs) w (iK C.L vs rs c i)):=by
 have _:=hv
 have _:=hr
 obtain ⟨v,r,xv,xr,hU⟩:=hU
 have cd:=h.wf.len
 have ch:=h.lt
 have hx:=D.a
 have af:=aO5 D.la D.hB
 have Q:=D.hB
 have bb:=D.lr
 have am:=D.lc
 have au:=D.nc
 have bu:=D.na
 have br:=D.nac
 have Y:y∉[C.rb]:=by simp;omega
 have hX:∀x∈[C.rb],x<B:=by simp;omega
 have e:Hid (∀(W W':World),W.cell? ⟨ba,0,none⟩=some (.pointer (some ⟨C.rb,0,none⟩))->ba<W.heap.size->Fr W.heap.size [C.rb] W W'->W'.cell? ⟨ba,0,none⟩=some (.pointer (some ⟨C.rb,0,none⟩))):=fun W W' h1 h2 hf=>by rw[hf.cell (p:=⟨ba,0,none⟩) h2 (by simp;omega)];exact h1
 obtain ⟨tb,ar⟩:∃tb:ByteArray,Hid (bs tb=tx C.L i):=⟨⟨(tx C.L i).toArray⟩,rfl⟩
 obtain ⟨i0,hi,bh,an,bg⟩:=aZ1 Tryz.info174
 have bk:Hid (dY (bs tb)=0):=by rw[Hid,ar.out];exact hk
 have HY:Hid _:=hn
 have bn:∀f,Hid (aW C.L 6 c (i+1)=.error f)->Hid (iK C.L vs rs c i=.error f):=fun f hr=>by rw[Hid,iK,if_neg (by rw[hk];simp),if_pos hn,hr.out]
 have bp:∀x c' j,Hid (aW C.L 6 c (i+1)=.ok (x,c',j))->Hid (iK C.L vs rs c i=.ok (some (vs,rs++[x],c',j))):=fun x c' j hr=>by rw[Hid,iK,if_neg (by rw[hk];simp),if_pos hn,hr.out]
 have bo:w.ownsRow B 174 1 r rs.length xr:=hU.good.own (dW 6 rs r xr) (by simp)
 obtain ⟨ao,cap,rfl⟩:=aP bo
 clear hk hn
 go_enter Tryz.func104,Tryz.ntmps104
 go_upto_region 8 with (first
  | (go_at_call 106;refine (eI h tb ar).mono ?_;rintro I w1 ⟨rfl,av,ai⟩;have hx1:=e.out _ _ hx af ai.wide;have cf:=ai.size)
  | (go_at_call 105;refine (qP av tb 0 bk).mono ?_;rintro I w2 ⟨rfl,be⟩;obtain rfl:=be.symm)
  | (go_at_call 109;refine (dM av ⟨#[114,101,103,105,111,110]⟩ HY.out (by decide)).mono ?_;rintro I w2 ⟨rfl,bf,bq⟩;have n:=(ai.wide (X:=[C.rb])).up bq;have ab:=hU.carry hX Y n;have bz:=e.out _ _ hx af n;obtain ⟨y2,-⟩:=lU ab.at_ 2 (Value.slice ao rs.length cap) rfl;have cg:=n.size))
 have hdr:Fr w2.heap.size [] w2 w2.drew:=(Fr.refl _ _ _).drew
 have az:=bf.same hdr
 have U:=aO6 Q n.size
 go_region_law
  (first
   | (refine step_append_lies _ (by rfl) _ _ _ (by rfl) B 174 i0 _ 1 24 Tryz.underlying45 hi bh an bg rfl (by omega) (Value.slice ao rs.length cap) rs.length xr (by rfl) (J.good.own (dW 6 rs _ xr) (by simp))
         ⟨l.heap.size,0,none⟩ 1 1 [.slice ag n4 s] (by rfl) (by rfl) (aO2 l _ 174) (by intro u hu;simp at hu;subst hu;rfl)
         (by omega) (by unfold maxLen;omega) (by omega) (by simp;omega) (l.heap.size+1) (by simp) ?_
      intro gg aw ae ac k bi bv
      have ah:∀g,(Value.slice ao rs.length cap).ownBlock=some g->B≤g:=fun g hg=>((J.good.own (dW 6 rs _ xr) (by simp)).lt g hg).1
      have bj:=CU.grow_regions (a:=a4) (u:=.slice ag n4 s) J am U ab.lts (aM.carry (bA (X:=[]) (by simp) ap) 6 _ _ ax) (by rw[aO9];exact ac) k (by rcases bi with I|I;exact .inl I.symm;exact .inr (by rw[I];simp[Value.ownBlock]))
      have bc:Fr B [C.rb,y] w ae:=(((ad.mono Q (by simp)).alloc ay _).grown k (by simp;omega) (fun g hg=>.inl (ah g hg)))
      have ak:PS C ae j4 c4 0 0:=al.low bb (((Fr.refl B [] l).alloc ay _).grown k (by simp;omega) (fun g hg=>.inl (ah g hg)))
      have bm:ae.heap[y]?=some (.cells #[sv nm,v,Value.slice ao rs.length cap] 47 (0,0)):=by
       rw[k.block y (by simp;omega) (fun I=>by have:=ah _ I.symm;omega)];exact J.at_
      obtain ⟨y5,ci⟩:=lU bm 2 (Value.slice ao rs.length cap) rfl)
   | (go_simp
      go_at_call 110
      refine (Ea 6 _ (i+1) c 0 rfl az).mono ?_
      rintro I l h4
      rcases h4.cases with ⟨f,O,q,rfl,hq⟩|⟨⟨a4,c4,j4⟩,v4,O,rfl,⟨ax,al⟩,Z⟩
      ·exact ⟨rfl,by rw[(bn _ O).out];exact aR.x ⟨q,rfl,hq⟩ ((n.mono Q (by simp)).drew) U (by simp)⟩
      obtain ⟨ag,n4,s,rfl⟩:=aM.shape ax
      have aa:=ab.carry hX Y (hdr.wide.up Z)
      have ad:=n.up (hdr.wide.up Z)
      have ca:=e.out _ _ hx af ad
      obtain ⟨y4,bw⟩:=lU aa.at_ 2 (Value.slice ao rs.length cap) rfl
      have cc:=aB aa.at_
      have ay:=aO6 Q ad.size
      have ce:=uW _ _ _ _ _ _ O.out
      have ap:Fr l.heap.size [] l (l.alloc (.cells #[.slice ag n4 s] 174)):=(Fr.refl _ _ _).alloc (aO4 _) _
      have J:=aa.carry (X:=[]) (by simp) (by simp) ap))
 all_goals
  go_wp2_with fail
  go_ret
  rw[(bp _ _ _ O).out]
  have aj:=bc.setCell (p:=⟨y,2,none⟩) (.inr (by simp)) (.slice (some ⟨gg,0,none⟩) (rs.length+1) aw)
  exact ⟨_,rfl,⟨rfl,by omega,by omega,by simp;omega,ak.put au _ _,D.low aj,_,_,_,_,bj⟩,aj⟩
theorem Gr {C:dV}{B u j:Nat}{w:World}{i c:Nat}{nm:bE}{vs:List bQ}{rs:List (List (St 6))}(h:PS C w i c 0 0) (l:CE C B u j w) (s:Jd B j w nm vs rs) (n:vs.length≤20) (r:rs.length≤i):Calls prog 104 #[.pointer (some ⟨u,0,none⟩),.pointer (some ⟨j,0,none⟩)] w (lS B [C.rb,j] (Vf C B u j i c nm vs rs) w (iK C.L vs rs c i)):=by
 by_cases hk:dY (tx C.L i)≠0
 ·by_cases hf:20≤vs.length
  ·exact Cl h l s n r hk hf
  ·exact Gp h l s n r hk hf
 ·have k:dY (tx C.L i)=0:=by simpa using hk
  by_cases hn:tx C.L i=dL
  ·exact Gq h l s n r k hn
  ·exact Ck h l s n r k hn
end
section
open Go.RowKit Px
theorem Jx {L:List Lx.fQ}{g c i:Nat}{vs:List bQ}{rs:List (List (St 6))}{f:F}(h:iK L vs rs c i=.error f):kM L (g+1) vs rs c i=.error f:=by
 rw[iK] at h
 rw[kM]
 by_cases hk:dY (tx L i)≠0
 ·rw[if_pos hk] at h ⊢
  by_cases h2:20≤vs.length
  ·rw[if_pos h2] at h ⊢;injection h with h;subst h;rfl
  ·rw[if_neg h2] at h ⊢
   split at h
   ·rename_i hs;injection h with h;subst h;rw[hs]
   ·exact absurd h (by simp)
 ·rw[if_neg hk] at h ⊢
  by_cases hr:tx L i=dL
  ·rw[if_pos hr] at h ⊢
   split at h
   ·rename_i hs;injection h with h;subst h;rw[hs]
   ·exact absurd h (by simp)
  ·rw[if_neg hr] at h;exact absurd h (by simp)
theorem Mg {L:List Lx.fQ}{g c i n j:Nat}{vs l:List bQ}{rs k:List (List (St 6))}(h:iK L vs rs c i=.ok (some (l,k,n,j))):kM L (g+1) vs rs c i=kM L g l k n j:=by
 rw[iK] at h
 rw[kM]
 by_cases hk:dY (tx L i)≠0
 ·rw[if_pos hk] at h ⊢
  by_cases h2:20≤vs.length
  ·rw[if_pos h2] at h;exact absurd h (by simp)
  ·rw[if_neg h2] at h ⊢
   split at h
   ·exact absurd h (by simp)
   ·rename_i hs
    rw[hs]
    injection h with h;injection h with h;injection h with e1 h;injection h with e2 h;injection h with e3 e4;subst e1;subst e2;subst e3;subst e4
    rfl
 ·rw[if_neg hk] at h ⊢
  by_cases hr:tx L i=dL
  ·rw[if_pos hr] at h ⊢
   split at h
   ·exact absurd h (by simp)
   ·rename_i hs
    rw[hs]
    injection h with h;injection h with h;injection h with e1 h;injection h with e2 h;injection h with e3 e4;subst e1;subst e2;subst e3;subst e4
    rfl
  ·rw[if_neg hr] at h;exact absurd h (by simp)
theorem Mh {L:List Lx.fQ}{g c i:Nat}{vs:List bQ}{rs:List (List (St 6))}(h:iK L vs rs c i=.ok none):kM L (g+1) vs rs c i=if tx L i=jM then .ok (vs,rs,i+1) else .error (3,pl L i):=by
 rw[iK] at h
 rw[kM]
 by_cases hk:dY (tx L i)≠0
 ·rw[if_pos hk] at h
  by_cases h2:20≤vs.length
  ·rw[if_pos h2] at h;exact absurd h (by simp)
  ·rw[if_neg h2] at h
   split at h
   ·exact absurd h (by simp)
   ·exact absurd h (by simp)
 ·rw[if_neg hk] at h ⊢
  by_cases hr:tx L i=dL
  ·rw[if_pos hr] at h
   split at h
   ·exact absurd h (by simp)
   ·exact absurd h (by simp)
  ·rw[if_neg hr]
def aW3 (C:dV) (B ba cb:Nat) (nm:bE) (x:List bQ×List (List (St 6))×Nat) (v:Value) (w':World):Prop:=v=.tuple #[]/\(∃c',PS C w' x.2.2 c' 0 0)/\CE C B ba cb w'/\Jd B cb w' nm x.1 x.2.1
theorem Cp {C:dV}{B X l i c:Nat}{w:World}{nm:bE}(h:PS C w i c 0 0) (Z:CE C B X l w) (hU:Jd B l w nm [] []) :
 Calls prog 103 #[.pointer (some ⟨C.rb,0,none⟩),.func (.func 104) #[] #[.pointer (some ⟨X,0,none⟩),.pointer (some ⟨l,0,none⟩)]] w
     (lS B [C.rb,l] (aW3 C B X l nm) w (if tx C.L i=fF then kM C.L C.L.length [] [] c (i+1) else .error (3,pl C.L i))):=by
 obtain ⟨D,u⟩:=gQx ((if tx C.L i=fF then kM C.L C.L.length [] [] c (i+1) else .error (3,pl C.L i)))
 rw[<-u]
 have hX:∀x∈[C.rb],x<B:=by have:=Z.lr;simp;omega
 have ad:l∉[C.rb]:=by have:=Z.nc;simp;omega
 have J:∀{w1 w2:World}{vs:List bQ}{rs:List (List (St 6))},Jd B l w1 nm vs rs->Fr w1.heap.size [C.rb] w1 w2->Jd B l w2 nm vs rs:=by
  rintro w1 w2 vs rs ⟨v,r,xv,xr,hu⟩ hf
  exact ⟨v,r,xv,xr,hu.carry hX ad hf⟩
 have I:∀{w1 w2:World},CE C B X l w1->Fr w1.heap.size [C.rb] w1 w2->CE C B X l w2:=fun h1 hf=>h1.low (hf.mono h1.hB (by simp))
 refine V9 h _ (fun g w1=>∃(vs:List bQ) (rs:List (List (St 6))) (c1 j:Nat),D=kM C.L g vs rs c1 j/\C.L.length≤g+j/\vs.length≤20/\rs.length≤j/\PS C w1 j c1 0 0/\CE C B X l w1/\Jd B l w1 nm vs rs/\Fr B [C.rb,l] w w1)
  (fun w2=>∃(vs:List bQ) (rs:List (List (St 6))) (c1 j:Nat),D=(if tx C.L j=jM then .ok (vs,rs,j+1) else .error (3,pl C.L j))/\PS C w2 j c1 0 0/\CE C B X l w2/\Jd B l w2 nm vs rs/\Fr B [C.rb,l] w w2) C.L.length ?_ ?_ ?_ ?_
 ·intro hn e w' ht
  rw[u,if_neg hn]
  exact ht.x (Fr.refl _ _ _) Z.hB (by simp)
 ·intro ho w1 n k
  exact ⟨[],[],c,i+1,by rw[u,if_pos ho],by omega,by simp,by simp,n,I Z k,J hU k,k.x Z.hB⟩
 ·rintro g w1 ⟨vs,rs,c1,j,s,hg,ae,af,n,Q,U,k⟩
  obtain ⟨g',rfl⟩:∃g',g=g'+1:=⟨g-1,by have:=n.lt;omega⟩
  refine (Gr n Q U ae af).mono ?_
  rintro e w2 h2
  rcases h2.cases with ⟨f,y,ht⟩|⟨o,v,y,rfl,hv,ac⟩
  ·refine .inr (.inr ?_)
   obtain ⟨q,rfl,hq⟩:=ht
   refine ⟨_,rfl,?_⟩
   rw[s,Jx y.out]
   exact iV.up ⟨q,rfl,hq⟩ k
  ·cases o with
   | none=>
    obtain ⟨rfl,Y,ab,aa⟩:=hv
    exact .inr (.inl ⟨rfl,vs,rs,c1,j,by rw[s,Mh y.out],Y,ab,aa,k.trans ac⟩)
   | some x=>
    obtain ⟨ah,ag,c2,j2⟩:=x
    obtain ⟨rfl,al,ai,ak,Y,ab,aa⟩:=hv
    exact .inl ⟨rfl,g',by omega,ah,ag,c2,j2,by rw[s,Mg y.out],by omega,ai,ak,Y,ab,aa,k.trans ac⟩
 ·rintro w2 ⟨vs,rs,c1,j,s,n,Q,U,k⟩
  refine ⟨j,c1,n,fun hn e w3 ht=>?_,fun ho w3 aj O=>?_⟩
  ·rw[s,if_neg hn]
   exact ht.x k (aO6 Z.hB k.size) (by simp)
  ·rw[s,if_pos ho]
   exact ⟨_,rfl,⟨rfl,⟨c1,aj⟩,I Q O,J U O⟩,k.trans (O.x (aO6 Z.hB k.size))⟩
theorem Tryz.sizeChart:(prog.info? 47).map (·.size)=some 3:=by kernel_rfl
theorem O9 {W:World}{g:Nat}{fc:Array Value}(hsz:fc.size=3) (hg:W.heap[g]?=some (.cells fc 47 (0,0))):(loadVar 47 ⟨g,0,none⟩).run prog W=.ok (.agg fc) W:=
 run_loadVar_row (P:=prog) W g 47 47 fc (0,0) _ hg Tryz.underlying47 rfl (by rw[hsz];exact Tryz.sizeChart)
theorem mY (c:Array Value) (W:World) (g:Nat) (j:Array Value) (hsz:j.size=3) (k:c.getD 2 undef=.pointer (some ⟨g,0,none⟩)) (l:W.heap[g]?=some (.cells j 47 (0,0))) :
    (results Tryz.f65 c).run prog W=.ok (.agg j) W:=by
 have h:c[2]?.getD undef=.pointer (some ⟨g,0,none⟩):=by simpa using k
 simp[results,Tryz.results65,h,asAddr,O9 hsz l]
def gQ (A:Nat->Prop) (w:World) (c:fZ) (v:Value):Prop:=∃a n m a' n' m',v=.agg #[sv c.name,.slice a n m,.slice a' n' m']/\mJ A w c.vars (.slice a n m)/\gP A w (aM A w 6) c.regions (.slice a' n' m')
theorem CU.done {B l:Nat}{w:World}{nm:bE}{vs:List bQ}{rs:List (List (St 6))}{v r:Value}{xv c:List Value}(h:CU B l w nm vs rs v r xv c):mJ (Ge B) w vs v/\gP (Ge B) w (aM (Ge B) w 6) rs r:=by
 have s:bB (sH B [iM vs v xv,dW 6 rs r c]) (Ge B) w w:=fun b hb _=>⟨hb.1,rfl⟩
 have o:=h.good.own
 have j:=h.good.has
 have k:∀x∈[iM vs v xv,dW 6 rs r c],wU (Ge B) w x.t x.sz x.v x.n x.xs:=fun x hx=>⟨qN (o x hx),fun g u=>((o x hx).lt g u).1⟩
 exact ⟨⟨xv,k (iM vs v xv) (by simp),j (iM vs v xv) (by simp)⟩,⟨c,k (dW 6 rs r c) (by simp),Nl s _ _ _ _ (j (dW 6 rs r c) (by simp))⟩⟩
theorem xC {L:List Lx.fQ}{s:bE}{f:F}(c:tx L 0=Q6) (j:nm L 1=.ok s) (h:(if tx L 2=fF then kM L L.length [] [] 0 3 else .error (3,pl L 2))=.error f):dJ L=.error f:=by
 rw[dJ,if_pos c,j]
 simp only
 by_cases ho:tx L 2=fF
 ·rw[if_pos ho] at h ⊢;rw[h]
 ·rw[if_neg ho] at h ⊢;injection h with h;subst h;rfl
theorem zH {L:List Lx.fQ}{s:bE}{vs:List bQ}{rs:List (List (St 6))}{i:Nat}(c:tx L 0=Q6) (j:nm L 1=.ok s) (h:(if tx L 2=fF then kM L L.length [] [] 0 3 else .error (3,pl L 2))=.ok (vs,rs,i)):dJ L=if kd L i=4 then .ok ⟨s,vs,rs⟩ else .error (3,pl L i):=by
 rw[dJ,if_pos c,j]
 simp only
 by_cases ho:tx L 2=fF
 ·rw[if_pos ho] at h ⊢;rw[h]
 ·rw[if_neg ho] at h;exact absurd h (by simp)
abbrev ZC:Array Value:=#[.string ⟨#[]⟩,.slice none 0 0,.slice none 0 0]
theorem H8 {C:dV}{w:World}(h:PS C w 0 0 0 0):Calls prog 65 #[.pointer (some ⟨C.rb,0,none⟩)] w (vU C (fun c v w'=>gQ (Ge w.heap.size) w' c v) w (dJ C.L)):=by
 have hC:=h.lts.1
 have bh:∀(fn:Fn) (first cap:Array Value) (w:World),(Instr.makeFunc fn first cap).run prog w=.ok (.func fn first cap) w:=fun _ _ _ _=>rfl
 obtain ⟨bc,al⟩:=h.alloc (.cells #[.pointer (some ⟨C.rb,0,none⟩)] 168)
 obtain ⟨ak,ai⟩:=bc.alloc (.cells ZC 47)
 have D:=al.up ai
 have ay:((w.alloc (.cells #[.pointer (some ⟨C.rb,0,none⟩)] 168)).alloc (.cells ZC 47)).heap.size=w.heap.size+2:=by simp
 have x0:((w.alloc (.cells #[.pointer (some ⟨C.rb,0,none⟩)] 168)).alloc (.cells ZC 47)).cell? ⟨w.heap.size,0,none⟩=some (.pointer (some ⟨C.rb,0,none⟩)):=by simp
 have r0:((w.alloc (.cells #[.pointer (some ⟨C.rb,0,none⟩)] 168)).alloc (.cells ZC 47)).heap[w.heap.size+1]?=some (.cells ZC 47 (0,0)):=by
  have:=heap_alloc_new (w.alloc (.cells #[.pointer (some ⟨C.rb,0,none⟩)] 168)) (.cells ZC 47)
  simpa using this
 go_enter Tryz.func65,Tryz.ntmps65
 go_upto_region 1 with fail
 generalize ((w.alloc (.cells #[.pointer (some ⟨C.rb,0,none⟩)] 168)).alloc (.cells ZC 47))=W0 at ak ai D ay x0 r0 ⊢
 have y:Hid (∀(W W':World),W.cell? ⟨w.heap.size,0,none⟩=some (.pointer (some ⟨C.rb,0,none⟩))->w.heap.size<W.heap.size->Fr W.heap.size [C.rb] W W'->W'.cell? ⟨w.heap.size,0,none⟩=some (.pointer (some ⟨C.rb,0,none⟩))):=fun W W' h1 h2 hf=>by rw[hf.cell (p:=⟨w.heap.size,0,none⟩) h2 (by simp;omega)];exact h1
 go_wp2_with (first
  | (go_at_call 101;refine (cD ak ⟨#[99,104,97,114,116]⟩ Q6 rfl (by decide)).mono ?_;rintro e w1 h1;rcases h1.cases with ⟨f,l,q,rfl,hq⟩|⟨_,v1,l,rfl,⟨rfl,av⟩,s⟩;(· exact ⟨rfl,by rw[dJ,if_neg (aV l).1,<-(aV l).2];exact aR.up D ⟨q,rfl,hq⟩⟩);have x1:=y.out _ _ x0 (by omega) s;have bj:=s.size;have r1:=s.stays r0 (by omega))
  | (go_at_call 102;refine (eZ av).mono ?_;rintro e w2 h2;rcases h2.cases with ⟨f,u,q,rfl,hq⟩|⟨r,v2,u,rfl,⟨rfl,an⟩,O⟩;(· exact ⟨rfl,by rw[dJ,if_pos (bJ l),u.out];exact aR.up (D.up s) ⟨q,rfl,hq⟩⟩);rw[sv];have x2:=y.out _ _ x1 (by omega) O;have be:=O.size;have r2:=O.stays r1 (by omega);obtain ⟨am,ab⟩:=an.alloc (.cells #[.string ⟨r.toArray⟩,.slice none 0 0,.slice none 0 0] 47);have x3:=y.out _ _ x2 (by omega) ab;have r3:=ab.stays r2 (by omega);have b3:=heap_alloc_new w2 (.cells #[.string ⟨r.toArray⟩,.slice none 0 0,.slice none 0 0] 47);have Y:=((D.up s).up O).up ab;have ao:CE C (w2.heap.size+1) w.heap.size w2.heap.size (w2.alloc (.cells #[.string ⟨r.toArray⟩,.slice none 0 0,.slice none 0 0] 47)):=⟨x3,by omega,by omega,hC,by omega,by omega,by omega,aB b3⟩;have au:Jd (w2.heap.size+1) w2.heap.size (w2.alloc (.cells #[.string ⟨r.toArray⟩,.slice none 0 0,.slice none 0 0] 47)) r [] []:=⟨_,_,[],[],b3,⟨by intro x hx;simp only[aW5,List.not_mem_nil,or_false] at hx;rcases hx with rfl|rfl<;>exact aY7 _ _ _ _,by simp[iM,dW,Value.ownBlock],by intro x hx;simp only[aW5,List.not_mem_nil,or_false] at hx;rcases hx with rfl|rfl<;>rfl⟩⟩;have ba:=Cp am ao au;have ar:=Y.size;have az:Hid (∀f e w5,iV (w2.heap.size+1) [C.rb,w2.heap.size] (w2.alloc (.cells #[.string ⟨r.toArray⟩,.slice none 0 0,.slice none 0 0] 47)) f e w5->aR C w f e w5):=(fun f e w5 ⟨q,h1,h2,h3,h4⟩=>⟨q,h1,h2,aO6 ar h3,Y.trans (h4.mono (by omega) (by intro x hx aa;simp at hx ⊢;omega))⟩))
  | (go_at_call 103;refine ba.mono ?_;rintro e w5 h5;rcases h5.cases with ⟨f,Q,q,rfl,hq⟩|⟨⟨j,k,j5⟩,v5,Q,rfl,⟨rfl,⟨c5,I⟩,ap,ah,r5,af,aj,ac⟩,J⟩;(· exact ⟨rfl,by rw[xC (bJ l) u.out Q.out];exact az.out _ _ _ ⟨q,rfl,hq⟩⟩);have x5:=ap.a))
 have ag:Hid _:=zH (bJ l) u.out Q.out
 have U:Fr w.heap.size [C.rb] w w5:=Y.trans (J.mono (by omega) (by intro x hx aa;simp at hx ⊢;omega))
 have Z:w5.heap[w.heap.size+1]?=some (.cells ZC 47 (0,0)):=by rw[J.block (w.heap.size+1) (by omega) (by simp;omega)];exact r3
 obtain ⟨q0,q1,-⟩:=I.cells
 obtain ⟨t0,-,-⟩:=I.now
 have bf:(0:Int)≤(j5:Int):=Int.natCast_nonneg _
 have bg:(j5:Int)<(C.L.length:Int):=by have:=I.lt;omega
 have hdr:∀n,Fr w5.heap.size [] w5 (w5.drewN n):=fun n=>(Fr.refl _ _ _).drewN n
 by_cases hk:kd C.L j5=4
 ·have bb:(((kd C.L j5:Nat):Int) != 4)=false:=by simp;omega
  have HE:Hid (dJ C.L=.ok ⟨r,j,k⟩):=by rw[Hid,ag.out,if_pos hk]
  clear hk
  have o1:w5.ownsRow (w2.heap.size+1) 126 3 ah j.length af:=ac.good.own (iM j ah af) (by simp)
  have o2:w5.ownsRow (w2.heap.size+1) 174 1 r5 k.length aj:=ac.good.own (dW 6 k r5 aj) (by simp)
  obtain ⟨a1,m1,rfl⟩:=aP o1
  obtain ⟨a2,m2,rfl⟩:=aP o2
  go_quiet (fail)
  have ad:=ac.carry (X:=[]) (by simp) (by simp) (hdr nq)
  have ae:Fr w.heap.size [C.rb] w (w5.drewN nq):=U.up (hdr nq).wide
  have rq:(w5.drewN nq).heap[w.heap.size+1]?=some (.cells ZC 47 (0,0)):=by rw[(hdr nq).block _ (aB Z) (by simp)];exact Z
  have bi:=J.size
  generalize w5.drewN nq=w6 at ad ae rq ⊢
  go_wp2_with (first
   | (refine cM rfl 47 (.tmp 3) rfl ⟨w2.heap.size,0,none⟩ rfl (.agg #[sv r,.slice a1 j.length m1,.slice a2 k.length m2]) (O9 rfl ad.at_) ?_)
   | (refine wpList_store_row rfl 47 (.tmp 2) (.tmp 26) rfl (w.heap.size+1) #[sv r,.slice a1 j.length m1,.slice a2 k.length m2] rfl rfl 47 _ rq Tryz.sizeChart rfl (by simp[Value.oneCell',sv]) ?_))
  refine aY9 (mY _ _ (w.heap.size+1) #[sv r,.slice a1 j.length m1,.slice a2 k.length m2] rfl rfl (setRow_heap _ _ _ _ _ _ rq)) rfl ?_
  rw[HE.out]
  obtain ⟨d1,d2⟩:=ad.done
  have aw:=sC w6 (w.heap.size+1) #[sv r,.slice a1 j.length m1,.slice a2 k.length m2]
  have kp:bB (Ge (w2.heap.size+1)) (Ge w.heap.size) w6 (w6.setRow (w.heap.size+1) #[sv r,.slice a1 j.length m1,.slice a2 k.length m2]):=fun b hb aa=>⟨by simp[Ge] at *;omega,aw.block b aa (by simp[Ge] at *;omega)⟩
  exact ⟨_,rfl,⟨a1,_,m1,a2,_,m2,rfl,d1.carry kp,d2.carry kp (aM.carry kp 6)⟩,ae.row (.inl (by omega)) _⟩
 ·have bb:(((kd C.L j5:Nat):Int) != 4)=true:=by simp;omega
  have HE:Hid (dJ C.L=.error (3,pl C.L j5)):=by rw[Hid,ag.out,if_neg hk]
  clear hk
  go_quiet (fail)
  have ax:=I.same (hdr nq)
  have xq:=y.out _ _ x5 (by have:=U.size;have:=J.size;have:=aB Z;omega) (hdr nq).wide
  go_wp2_with (go_at_call 111;refine (gX ax 3).mono ?_;rintro e w6 ⟨q,rfl,hq⟩;exact ⟨rfl,by rw[HE.out];exact aR.up (U.up (hdr nq).wide) ⟨q,rfl,hq⟩⟩)
end
section
open Go.RowKit Px
theorem mJ.open {A:Nat->Prop}{w:World}{l:List bQ}{v:Value}(h:mJ A w l v) :
    ∃ad g cap,v=.slice ad l.length cap/\l.length≤maxLen/\(0<l.length->ad=some ⟨g,0,none⟩/\g<w.heap.size)/\∀(i:Nat) (d:bQ),l[i]?=some d->w.cell? ⟨g,i*3,none⟩=some (.int .i64 (d.kind:Int))/\w.cell? ⟨g,i*3+1,none⟩=some (sv d.name)/\w.cell? ⟨g,i*3+2,none⟩=some (.int .i64 d.first):=by
 obtain ⟨O,u,y⟩:=h
 obtain ⟨ad,g,cap,J,s,r,I⟩:=wU.open (k:=3) (fun a c j=>by rw[show c=_ from j];rfl) u y
 refine ⟨ad,g,cap,J,s,fun n=>⟨(r n).1,(r n).2.2⟩,fun i a D=>?_⟩
 obtain ⟨c,j,hx⟩:=I i a D
 obtain rfl:c=_:=j
 exact ⟨hx 0 _ rfl,hx 1 _ rfl,hx 2 _ rfl⟩
theorem Yl (w:World) (o o':Obj):((w.alloc o).alloc o').heap[w.heap.size+1]?=some o':=by
 have e:w.heap.size+1=(w.alloc o).heap.size:=by simp
 rw[e];exact aX _ _
structure qZ (c:fZ):Prop where
 vars:c.vars.length≤1000000
 names:∀v∈c.vars,v.name.length≤maxLen
 sts:∀r∈c.regions,∀x∈r,He 6 x
 many:gY (Y4 6) c.regions≤1000000
def Vh (o:Option (Nat×Option Nat)) (w:World) (e:Ending) (w':World):Prop:=
 Below w.heap.size w w'/\((o=none/\e=.returned .nilIface)\/(∃c,o=some (c,none)/\e=.returned (.iface 86 (.int .i64 ((c:Nat):Int))))\/∃c p g,o=some (c,some p)/\e=.returned (.iface 89 (.pointer (some ⟨g,0,none⟩)))/\w'.heap[g]?=some (.cells #[.int .i64 ((c:Nat):Int),.int .i64 ((p:Nat):Int)] 91 (0,0))/\w.heap.size≤g)
theorem Z3 (ns:List bE):∀(f i:Nat),(∀j,i≤j->j<i+f->¬eG ns (ns.getD j [])<j)->nQ ns f i=none:=by
 intro f
 induction f with
 | zero=>intro i _;rfl
 | succ f ih=>
  intro i h
  rw[nQ,if_neg (h i (aO4 _) (by omega))]
  exact ih (i+1) fun j c k=>h j (by omega) (by omega)
theorem Z2 (ns:List bE):∀(f i k:Nat),i≤k->k<i+f->eG ns (ns.getD k [])<k->(∀j,i≤j->j<k->¬eG ns (ns.getD j [])<j)->nQ ns f i=some k:=by
 intro f
 induction f with
 | zero=>intro i k r l;omega
 | succ f ih=>
  intro i k r l c h
  rw[nQ]
  by_cases e:i=k
  ·subst e;rw[if_pos c]
  ·rw[if_neg (h i (aO4 _) (by omega))]
   exact ih (i+1) k (by omega) (by omega) c fun j s n=>h j (by omega) n
theorem uH {vs:List bQ}{i:Nat}{d:bQ}(h:vs[i]?=some d):(cG vs).getD i []=d.name:=by
 rw[cG,iO,aW6,h];rfl
theorem Gl (c:fZ) (h:nQ (cG c.vars) c.vars.length 0=none) (j:c.regions≠[]):gI c=match gR (nB c.vars 6) c.regions 0 with
    | .error (e,p)=>some (e,some p)
    | .ok _=>none:=by
 unfold gI;rw[h]
 show (if c.regions=[] then _ else _)=_
 rw[if_neg j]
 cases gR (nB c.vars 6) c.regions 0 with
 | error x=>cases x;rfl
 | ok _=>rfl
theorem iU {A:Nat->Prop}{w:World}{c:fZ}{v:Value}(h:gQ A w c v) (hN:qZ c):Calls prog 37 #[v] w (Vh (gI c) w):=by
 have bf:∀(fn:Fn) (first cap:Array Value) (w:World),(Instr.makeFunc fn first cap).run prog w=.ok (.func fn first cap) w:=fun _ _ _ _=>rfl
 obtain ⟨a0,n0,J,a1,n1,m1,rfl,hV,hR⟩:=h
 obtain ⟨bh,gv,ba,ev,v1,v2,v3⟩:=hV.open
 injection ev with e1 e2 e3
 subst e1;subst e2;subst e3
 obtain ⟨be,gr,az,er,r1,-,-⟩:=hR.len
 injection er with e1 e2 e3
 subst e1;subst e2;subst e3
 obtain ⟨S,hS⟩:∃S,sv c.name=.string S:=⟨_,rfl⟩
 rw[hS]
 obtain ⟨M,hM⟩:∃M,Hid (c.vars.length=M):=⟨_,rfl⟩
 have ax:M≤1000000:=by rw[<-hM.out];exact hN.vars
 have ay:Hid (M=(cG c.vars).length):=by rw[Hid,cG,List.length_map];exact hM.out.symm
 have HV:Hid (∀(i:Nat) (d:bQ),c.vars[i]?=some d->w.cell? ⟨gv,i*3,none⟩=some (.int .i64 (d.kind:Int))/\w.cell? ⟨gv,i*3+1,none⟩=some (sv d.name)/\w.cell? ⟨gv,i*3+2,none⟩=some (.int .i64 d.first)):=v3
 rw[hM.out] at v2 ⊢
 have HA:Hid (0<M->a0=some ⟨gv,0,none⟩/\gv<w.heap.size):=v2
 have HR:Hid (gP A w (aM A w 6) c.regions (.slice a1 c.regions.length m1)):=hR
 have ad:Hid (qZ c):=hN
 have aj:∀i,i<M->∃d,c.vars[i]?=some d:=fun i U=>⟨c.vars[i]'(by rw[hM.out];exact U),aN4 _⟩
 have aw:Hid (∀i,i<M->((cG c.vars).getD i []).length≤maxLen):=fun i U=>by
  obtain ⟨d,hd⟩:=aj i U
  rw[uH hd]
  exact ad.out.names d (aP1 hd)
 obtain ⟨O,hO⟩:=gQx (Obj.cells #[.string S,.slice a0 M J,.slice a1 c.regions.length m1] 47)
 have ak:(w.alloc O).heap[w.heap.size]?=some (.cells #[.string S,.slice a0 M J,.slice a1 c.regions.length m1] 47 (0,0)):=by rw[aX,hO]
 have l:=zC 67 (.inl rfl) w.heap.size (cG c.vars) M ay ax aw (w.alloc O) (fun X i hX U=>by
  obtain ⟨d,hd⟩:=aj i U
  rw[uH hd]
  exact Ra (aN hX (aF ak 1 rfl)) U (fun h=>(HA.out h).1) (aN hX (aN (aL w O) (HV.out i d hd).2.1)))
 have ac:Hid (Below w.heap.size w (w.alloc O)/\(w.alloc O).heap[w.heap.size]?=some (.cells #[.string S,.slice a0 M J,.slice a1 c.regions.length m1] 47 (0,0))):=⟨aL w O,ak⟩
 rw[hO] at l ac
 clear hV hR v1 v2 v3 hN aj hO ak hS
 obtain ⟨NR,al⟩:∃NR,Hid (c.regions.length=NR):=⟨_,rfl⟩
 rw[al.out] at l ac r1 HR ⊢
 go_enter Tryz.func37,Tryz.ntmps37
 go_upto_region 2 with (refine l.mono ?_;rintro e w1 ⟨f,rfl,⟨pb,mb,nm,rfl,am,ar⟩,hb⟩;have D:Hid ((w1.heap[pb]?=some (.cells #[.map (some mb)] 177 (0,0))/\iD w1 mb nm (jT (cG c.vars)))/\Below w.heap.size w w1/\w1.heap[w.heap.size]?=some (.cells #[.string S,.slice a0 M J,.slice a1 NR m1] 47 (0,0))):=⟨⟨am,ar⟩,aQ ac.out.1 hb,aD hb ac.out.2⟩;clear am ar hb)
 clear l
 have d1:=aF D.out.2.2 1 (u:=.slice a0 M J) rfl
 go_wp2_with fail
 clear d1
 go_loopg [15] M (fun f i wr=>∃k:Nat,f=M-k/\k≤M/\i=.int .i64 (k:Int)/\Hid (Below w1.heap.size w1 wr/\∀j,j<k->¬eG (cG c.vars) ((cG c.vars).getD j [])<j))
 case atStart=>exact ⟨0,by omega,by omega,rfl,Below.refl _ _,fun j hj=>absurd hj (by omega)⟩
 case round=>
  obtain ⟨k,rfl,hk,rfl,hr⟩:=hrel
  obtain ⟨n,ap⟩:=hr.out
  have Q:Hid (Below w1.heap.size w1 wr):=n
  have ai:Hid (∀j,j<k->¬eG (cG c.vars) ((cG c.vars).getD j [])<j):=ap
  clear hr ap
  by_cases aa:k<M
  ·obtain ⟨d,hd⟩:∃d,c.vars[k]?=some d:=⟨c.vars[k]'(by rw[hM.out];exact aa),aN4 _⟩
   have ah:=uH hd
   have ae:Below w.heap.size w wr:=aQ D.out.2.1 n
   obtain ⟨x0,x1,x2⟩:=HV.out k d hd
   have y0:=aN ae x0
   have y1:=aN ae x1
   have y2:=aN ae x2
   have bb:=ixV a0 gv M J k aa (fun h=>(HA.out h).1)
   have hlen:d.name.length≤maxLen:=ad.out.names d (aP1 hd)
   have r:=fun o=>nG (w:=wr.alloc o) (s:=d.name) (eB (aD n D.out.1.1)) ((D.out.1.2.below n).below (aL wr o)) hlen
   obtain ⟨I,hI⟩:∃I,Hid (eG (cG c.vars) ((cG c.vars).getD k [])=I):=⟨_,rfl⟩
   rw[<-ah] at r
   rw[hI.out] at r
   rw[ah] at r
   obtain ⟨T,hT⟩:∃T,sv d.name=.string T:=⟨_,rfl⟩
   rw[hT] at r y1
   have l:=r (.cells #[.int .i64 (d.kind:Int),.string T,.int .i64 d.first] 126)
   clear r x0 x1 x2 hT hlen hd ah ae n
   by_cases U:I<(k:Int)
   ·have HE:Hid (gI c=some (9,some k)):=by
     have:nQ (cG c.vars) c.vars.length 0=some k:=Z2 _ _ 0 k (by omega) (by rw[hM.out];omega) (by rw[hI.out];exact U) (fun j _ hj=>ai.out j hj)
     unfold Hid gI;rw[this]
    go_wp2_with (refine l.mono ?_;rintro e w' ⟨rfl,rfl⟩)
    go_ret
    refine ⟨aQ D.out.2.1 (aQ Q.out (aQ (aL _ _) (aL _ _))),.inr (.inr ⟨9,k,_,HE.out,rfl,Yl _ _ _,?_⟩)⟩
    have:=D.out.2.1.size
    have:=Q.out.size
    simp;omega
   ·go_wp2_with (refine l.mono ?_;rintro e w' ⟨rfl,rfl⟩)
    go_roundg (M-(k+1))
    case measure=>omega
    case rel=>
     refine ⟨k+1,rfl,by omega,by go_num,aQ Q.out (aL _ _),fun j hj=>?_⟩
     by_cases e:j=k
     ·subst e;rw[hI.out];exact U
     ·exact ai.out j (by omega)
  ·obtain rfl:k=M:=by omega
   have HT:Hid (nQ (cG c.vars) c.vars.length 0=none):=Z3 _ _ _ fun j _ hj=>ai.out j (by rw[hM.out] at hj;omega)
   have e1:=aF (aD n D.out.2.2) 1 (u:=.slice a0 k J) rfl
   have e2:=aF (aD n D.out.2.2) 2 (u:=.slice a1 NR m1) rfl
   by_cases h0:NR=0
   ·subst h0
    have HE:Hid (gI c=some (8,none)):=by
     have:c.regions=[]:=aR5.1 al.out
     unfold Hid gI;rw[HT.out,this];rfl
    clear n
    go_wp2_with fail
    go_ret
    exact ⟨aQ D.out.2.1 Q.out,.inr (.inl ⟨8,HE.out,rfl⟩)⟩
   ·have bg:¬(NR:Int)=0:=by omega
    have bc:((NR:Int)==0)=false:=by simp;omega
    have au:c.regions≠[]:=fun e=>h0 (by rw[<-al.out,e];rfl)
    have HE:Hid (gI c=_):=Gl c HT.out au
    obtain ⟨O,hO⟩:=gQx (Obj.cells #[.slice a0 k J,.func (.func 112) #[] #[.pointer (some ⟨pb,0,none⟩)],.int .i64 0] 129)
    have Y:Below w.heap.size w (wr.alloc O):=aQ D.out.2.1 (aQ Q.out (aL wr O))
    have lp:=aB (aD n D.out.1.1)
    have lm:=(D.out.1.2.below n).lt
    have lw:w.heap.size≤wr.heap.size:=aO6 D.out.2.1.size Q.out.size
    have hC:kL (wr.alloc O) wr.heap.size pb mb nm gv a0 J c.vars 0:=by
     refine ⟨by rw[aX,hO,hM.out];rfl,eB (aD n D.out.1.1),(D.out.1.2.below n).below (aL wr O),fun hp=>?_,fun i d U=>aN Y (HV.out i d U).1,by omega,by omega,fun hp=>?_⟩
     ·rw[hM.out] at hp
      exact ⟨(HA.out hp).1,aO5 (HA.out hp).2 Y.size⟩
     ·rw[hM.out] at hp
      have:=(HA.out hp).2;omega
    have ao:gP (· < w.heap.size) (wr.alloc O) (aM (· < w.heap.size) (wr.alloc O) 6) c.regions (.slice a1 NR m1):=by
     have hK:bB A (· < w.heap.size) w (wr.alloc O):=fun x _ aa=>⟨aa,Y.block x aa⟩
     exact HR.out.carry hK (aM.carry hK 6)
    have l:=G8 (A:=(· < w.heap.size)) (fun x hx e=>by have:x<w.heap.size:=hx;omega) (Wk (A:=(· < w.heap.size)) (fun x hx e=>by have:x<w.heap.size:=hx;omega) 6) (wr.alloc O) c.regions (.slice a1 NR m1) 0 hC ao ad.out.sts (by have:=ad.out.many;omega)
    have ab:Hid (_/\_):=⟨Y,lw⟩
    have av:=aN (aL wr O) e2
    rw[hO] at l ab av
    clear hC ao Y lp lm lw hO n
    unfold sF at l
    have af:∀w',Fr (wr.alloc (.cells #[.slice a0 k J,.func (.func 112) #[] #[.pointer (some ⟨pb,0,none⟩)],.int .i64 0] 129)).heap.size [wr.heap.size] (wr.alloc (.cells #[.slice a0 k J,.func (.func 112) #[] #[.pointer (some ⟨pb,0,none⟩)],.int .i64 0] 129)) w'->Below w.heap.size w w':=fun w' hF=>
     ab.out.1.trans ((hF.mono ab.out.1.size (X':=[]) (fun x hx h=>by have:=ab.out.2;simp at hx;omega)).below)
    have an:Hid _:=af
    clear af
    cases hrs:gR (nB c.vars 6) c.regions 0 with
    | error x=>
     obtain ⟨cc,pl⟩:=x
     rw[hrs] at HE l
     have ag:Calls prog 68 #[.pointer (some ⟨wr.heap.size,0,none⟩),.slice a1 NR m1] (wr.alloc (.cells #[.slice a0 k J,.func (.func 112) #[] #[.pointer (some ⟨pb,0,none⟩)],.int .i64 0] 129)) fun e y=>∃g,e=.returned (.iface 89 (.pointer (some ⟨g,0,none⟩)))/\Hid (y.heap[g]?=some (.cells #[.int .i64 ((cc:Nat):Int),.int .i64 ((pl:Nat):Int)] 91 (0,0))/\wr.heap.size≤g/\Below w.heap.size w y):=l.mono fun e y ⟨hF,ho⟩=>by
      rcases ho with ⟨_,he,_⟩|⟨c',p',g',he,h1,h2,h3⟩
      ·simp at he
      ·injection he with he
       injection he with e1 e2
       subst e1;subst e2
       exact ⟨g',h1,h2,by simp at h3;omega,an.out _ hF⟩
     clear l
     go_wp2_with (refine ag.mono ?_;rintro e y ⟨ge,rfl,Z⟩)
     go_ret
     exact ⟨Z.out.2.2,.inr (.inr ⟨cc,pl,ge,HE.out,rfl,Z.out.1,aO6 ab.out.2 Z.out.2.1⟩)⟩
    | ok m2=>
     rw[hrs] at HE l
     have ag:Calls prog 68 #[.pointer (some ⟨wr.heap.size,0,none⟩),.slice a1 NR m1] (wr.alloc (.cells #[.slice a0 k J,.func (.func 112) #[] #[.pointer (some ⟨pb,0,none⟩)],.int .i64 0] 129)) fun e y=>e=.returned .nilIface/\Hid (Below w.heap.size w y):=l.mono fun e y ⟨hF,ho⟩=>by
      rcases ho with ⟨m',he,h1,h2⟩|⟨_,_,_,he,_⟩
      ·exact ⟨h1,an.out _ hF⟩
      ·simp at he
     clear l
     go_wp2_with (refine ag.mono ?_;rintro e y ⟨rfl,Z⟩)
     go_ret
     exact ⟨Z.out,.inl ⟨HE.out,rfl⟩⟩
end
end Go.Proofs.YthieaobjdpfcoaaGreatDoor
