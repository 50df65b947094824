import Derived.Test.YthieaobjdpfcoaaGreatDoorUPregion2
import Derived.Deep.QuietTactic
import Derived.BigQuiet
set_option maxRecDepth 100000
set_option maxHeartbeats 8000000
namespace Go.Proofs.YthieaobjdpfcoaaGreatDoor
section
open Go.RowKit Px
theorem Tryz.infoDecl:(Tryz.prog.info? 126).map (fun i=>(i.zero,i.size,i.bytes))=some (some (.agg #[.int .i64 0,.string ⟨#[]⟩,.int .i64 0]),3,32):=by kernel_rfl
structure CU (B cb:Nat) (w:World) (nm:bE) (vs:List bQ) (rs:List (List (St 6))) (v r:Value) (xv xr:List Value):Prop where
 at_:w.heap[cb]?=some (.cells #[sv nm,v,r] 47 (0,0))
 good:jS B w [iM vs v xv,dW 6 rs r xr]
theorem nH (vs:List bQ) (rs:List (List (St 6))) (v r:Value) (xv j:List Value):iW [iM vs v xv,dW 6 rs r j]:=by
 intro x hx A l w k c
 simp only[aO6,List.not_mem_nil,or_false] at hx
 rcases hx with rfl|rfl
 ·exact fun h=>h
 ·exact Nl c _ _ _ _
theorem CU.carry {B cb:Nat}{X:List Nat}{w w':World}{nm:bE}{vs:List bQ}{rs:List (List (St 6))}{v r:Value}{xv xr:List Value}(h:CU B cb w nm vs rs v r xv xr) (hX:∀x∈X,x<B) (hs:cb∉X) (hf:Fr w.heap.size X w w'):CU B cb w' nm vs rs v r xv xr:=
 ⟨by rw[hf.block cb (aB h.at_) hs];exact h.at_,h.good.carry (nH _ _ _ _ _ _) hX hf⟩
theorem CU.lts {B cb:Nat}{w:World}{nm:bE}{vs:List bQ}{rs:List (List (St 6))}{v r:Value}{xv xr:List Value}(h:CU B cb w nm vs rs v r xv xr):∀x∈[iM vs v xv,dW 6 rs r xr],∀g,x.v.ownBlock=some g->g<w.heap.size:=fun x hx g hg=>(h.good.block x hx g hg).2
theorem CU.grow_vars {B c:Nat}{w4 w5:World}{nm:bE}{vs:List bQ}{rs:List (List (St 6))}{v r j:Value}{xv k cs:List Value}{a:bQ}(h:CU B c w4 nm vs rs v r xv k) (I:c<B)
    (Y:Jb a cs) (n:w5.ownsRow B 126 3 j ((vs++[a]).length) (xv++cs)) (O:w4.grownBy w5 v.ownBlock) (J:j.ownBlock=v.ownBlock\/j.ownBlock=some w4.heap.size) :
    CU B c (w5.setCell ⟨c,1,none⟩ j) nm (vs++[a]) rs j r (xv++cs) k:=by
 have s:jS B w4 ([]++iM vs v xv::[dW 6 rs r k]):=h.good
 have U:iW ([]++iM vs v xv::[dW 6 rs r k]):=nH vs rs v r xv k
 have hold:Rows Jb vs xv:=s.has (iM vs v xv) (by simp)
 have u:=s.grow (s':=iM (vs++[a]) j (xv++cs)) U O J n (Rows.append hold (Rows.one Y))
 have D:=cU w5 c 1 j
 have y:=aB h.at_
 refine ⟨?_,jS.carry (X:=[c]) u (nH (vs++[a]) rs j r (xv++cs) k) (by simp;exact I) D⟩
 have l:w5.heap[c]?=some (.cells #[sv nm,v,r] 47 (0,0)):=by
  rw[O.block c y (fun Q=>by have:=((h.good.own (iM vs v xv) (by simp)).lt c Q.symm).1;omega)];exact h.at_
 rw[heap_setCell_same w5 c 1 _ 47 _ l];rfl
theorem CU.grow_regions {B k n:Nat}{w4 w5:World}{nm:bE}{vs:List bQ}{rs:List (List (St 6))}{v r j u:Value}{xv c:List Value}{a:List (St 6)}(h:CU B k w4 nm vs rs v r xv c) (Z:k<B) (hB:B≤n) (hn:∀x∈[iM vs v xv,dW 6 rs r c],∀g,x.v.ownBlock=some g->g<n)
    (ha:aM (Ge n) w4 6 a u) (I:w5.ownsRow B 174 1 j ((rs++[a]).length) (c++[u])) (U:w4.grownBy w5 r.ownBlock) (y:j.ownBlock=r.ownBlock\/j.ownBlock=some w4.heap.size) :
    CU B k (w5.setCell ⟨k,2,none⟩ j) nm vs (rs++[a]) v j xv (c++[u]):=by
 have l:jS B w4 ([iM vs v xv]++dW 6 rs r c::[]):=h.good
 have hc:iW ([iM vs v xv]++dW 6 rs r c::[]):=nH vs rs v r xv c
 have kN:=oG (s':=dW 6 (rs++[a]) j (c++[u])) l hn hB U y
 have Y:Yz (aM (sH B ([iM vs v xv]++dW 6 (rs++[a]) j (c++[u])::[])) w5 6) a [u]:=⟨u,rfl,aM.carry kN 6 _ _ ha⟩
 have hold:=Nl (kB (B:=B) (l1:=[iM vs v xv]) (l2:=[]) (s:=dW 6 rs r c) (s':=dW 6 (rs++[a]) j (c++[u])) U y) _ _ _ _ (l.has (dW 6 rs r c) (by simp))
 have J:=l.grow (s':=dW 6 (rs++[a]) j (c++[u])) hc U y I (Rows.append hold (Rows.one Y))
 have Q:=cU w5 k 2 j
 have O:=aB h.at_
 refine ⟨?_,jS.carry (X:=[k]) J (nH vs (rs++[a]) v j xv (c++[u])) (by simp;exact Z) Q⟩
 have D:w5.heap[k]?=some (.cells #[sv nm,v,r] 47 (0,0)):=by
  rw[U.block k O (fun e=>by have:=((h.good.own (dW 6 rs r c) (by simp)).lt k e.symm).1;omega)];exact h.at_
 rw[heap_setCell_same w5 k 2 _ 47 _ D];rfl
def iK (L:List Lx.fQ) (vs:List bQ) (rs:List (List (St 6))) (c i:Nat):Except F (Option (List bQ×List (List (St 6))×Nat×Nat)):=
 if dY (tx L i)≠0 then
  if 20≤vs.length then .error (4,pl L (i+1))
  else match dC L (dY (tx L i)) (i+1) with
   | .error x=>.error x
   | .ok (v,j)=>.ok (some (vs++[v],rs,c,j))
 else if tx L i=dL then
  match aW L 6 c (i+1) with
  | .error x=>.error x
  | .ok (l,c',j)=>.ok (some (vs,rs++[l],c',j))
 else .ok none
structure CE (C:dV) (B ba cb:Nat) (w:World):Prop where
 a:w.cell? ⟨ba,0,none⟩=some (.pointer (some ⟨C.rb,0,none⟩))
 la:ba<B
 lc:cb<B
 na:C.rb<ba
 nc:C.rb<cb
 nac:ba≠cb
 lr:C.rb<B
 hB:B≤w.heap.size
theorem CE.low {C:dV}{B c j:Nat}{w w':World}(h:CE C B c j w) (k:Fr B [C.rb,j] w w'):CE C B c j w':=by
 have n:=h.na
 have l:=h.nac
 exact ⟨by rw[k.cell (p:=⟨c,0,none⟩) h.la (by simp;omega)];exact h.a,h.la,h.lc,n,h.nc,l,h.lr,aH5 h.hB k.size⟩
def Jd (B cb:Nat) (w:World) (nm:bE) (vs:List bQ) (rs:List (List (St 6))):Prop:=∃v r xv xr,CU B cb w nm vs rs v r xv xr
def Vf (C:dV) (B ba cb i c:Nat) (nm:bE) (vs:List bQ) (rs:List (List (St 6))):Option (List bQ×List (List (St 6))×Nat×Nat)->Value->World->Prop
 | none,v,w'=>v=.bool false/\PS C w' i c 0 0/\CE C B ba cb w'/\Jd B cb w' nm vs rs
 | some (vs',rs',c',j),v,w'=>v=.bool true/\i<j/\vs'.length≤20/\rs'.length≤j/\PS C w' j c' 0 0/\CE C B ba cb w'/\Jd B cb w' nm vs' rs'
theorem Ti {L:List Lx.fQ}{i j:Nat}{n:Int}(h:first L i=.ok (n,j)):i≤j:=by
 rw[first] at h
 split at h
 ·split at h
  ·split at h
   ·exact absurd h (by simp)
   ·injection h with h;injection h with _ h;omega
  ·split at h
   ·exact absurd h (by simp)
   ·injection h with h;injection h with _ h;omega
 ·injection h with h;injection h with _ h;omega
theorem Y8 {L:List Lx.fQ}{kind i j:Nat}{v:bQ}(h:dC L kind i=.ok (v,j)):i<j:=by
 rw[dC] at h
 split at h
 ·exact absurd h (by simp)
 ·split at h
  ·exact absurd h (by simp)
  ·rename_i hf
   have:=Ti hf
   split at h
   ·injection h with h;injection h with _ h;omega
   ·exact absurd h (by simp)
theorem qP {C:dV}{w:World}{i st ins c:Nat}(h:PS C w i st ins c) (tb:ByteArray) (n:Nat) (j:Hid (dY (bs tb)=n)):Calls Tryz.prog 105 #[.string tb] w fun e w'=>e=.returned (.int .i64 n)/\w'=w:=by
 refine (Fi tb w h.tab).mono ?_
 rintro e w' ⟨rfl,rfl⟩
 exact ⟨by rw[j.out],rfl⟩
theorem Ck {C:dV}{B l n:Nat}{w:World}{i c:Nat}{nm:bE}{vs:List bQ}{rs:List (List (St 6))}(h:PS C w i c 0 0) (j:CE C B l n w) (Q:Jd B n w nm vs rs) (hv:vs.length≤20) (hr:rs.length≤i) (J:dY (tx C.L i)=0) (Z:tx C.L i≠dL):Calls Tryz.prog 104 #[.pointer (some ⟨l,0,none⟩),.pointer (some ⟨n,0,none⟩)] w (lS B [C.rb,n] (Vf C B l n i c nm vs rs) w (iK C.L vs rs c i)):=by
 have _:=hv
 have _:=hr
 obtain ⟨v,r,xv,xr,Q⟩:=Q
 have ai:=h.wf.len
 have aj:=h.lt
 have hx:=j.a
 have Y:=aH3 j.la j.hB
 have ah:=j.hB
 have af:=j.lr
 have ae:=j.lc
 have ac:=j.nc
 have ad:=j.na
 have ab:=j.nac
 have y:n∉[C.rb]:=by simp;omega
 have hX:∀x∈[C.rb],x<B:=by simp;omega
 have D:Hid (∀(W W':World),W.cell? ⟨l,0,none⟩=some (.pointer (some ⟨C.rb,0,none⟩))->l<W.heap.size->Fr W.heap.size [C.rb] W W'->W'.cell? ⟨l,0,none⟩=some (.pointer (some ⟨C.rb,0,none⟩))):=fun W W' h1 h2 hf=>by rw[hf.cell (p:=⟨l,0,none⟩) h2 (by simp;omega)];exact h1
 obtain ⟨tb,s⟩:∃tb:ByteArray,Hid (bs tb=tx C.L i):=⟨⟨(tx C.L i).toArray⟩,rfl⟩
 have I:Hid (dY (bs tb)=0):=by rw[Hid,s.out];exact J
 have HN:Hid _:=Z
 have O:Hid (iK C.L vs rs c i=.ok none):=by rw[Hid,iK,if_neg (by rw[J];simp),if_neg Z]
 clear J Z
 go_enter Tryz.func104,Tryz.ntmps104
 go_wp2_with (first
  | (go_at_call 106;refine (eI h tb s).mono ?_;rintro e1 w1 ⟨rfl,u,k⟩;have hx1:=D.out _ _ hx Y k.wide;have ag:=k.size)
  | (go_at_call 105;refine (qP u tb 0 I).mono ?_;rintro e1 w2 ⟨rfl,X⟩;obtain rfl:=X.symm)
  | (go_at_call 109;refine (cN u ⟨#[114,101,103,105,111,110]⟩ HN.out).mono ?_;rintro e1 w3 ⟨rfl,aa,e⟩))
 go_ret
 rw[O.out]
 have U:Fr w.heap.size [C.rb] w w3:=(k.wide).up e.wide
 exact ⟨_,rfl,⟨rfl,aa,j.low (U.mono j.hB (by simp)),_,_,_,_,Q.carry hX y U⟩,U.mono j.hB (by simp)⟩
theorem Cl {C:dV}{B y D:Nat}{w:World}{i c:Nat}{nm:bE}{vs:List bQ}{rs:List (List (St 6))}(h:PS C w i c 0 0) (j:CE C B y D w) (Z:Jd B D w nm vs rs) (hv:vs.length≤20) (hr:rs.length≤i) (O:dY (tx C.L i)≠0) (n:20≤vs.length):Calls Tryz.prog 104 #[.pointer (some ⟨y,0,none⟩),.pointer (some ⟨D,0,none⟩)] w (lS B [C.rb,D] (Vf C B y D i c nm vs rs) w (iK C.L vs rs c i)):=by
 have _:=hv
 have _:=hr
 obtain ⟨v,r,xv,xr,Z⟩:=Z
 have av:=h.wf.len
 have ax:=h.lt
 have hx:=j.a
 have Q:=aH3 j.la j.hB
 have ar:=j.hB
 have al:=j.lr
 have ak:=j.lc
 have ai:=j.nc
 have aj:=j.na
 have ah:=j.nac
 have Y:D∉[C.rb]:=by simp;omega
 have hX:∀x∈[C.rb],x<B:=by simp;omega
 have J:Hid (∀(W W':World),W.cell? ⟨y,0,none⟩=some (.pointer (some ⟨C.rb,0,none⟩))->y<W.heap.size->Fr W.heap.size [C.rb] W W'->W'.cell? ⟨y,0,none⟩=some (.pointer (some ⟨C.rb,0,none⟩))):=fun W W' h1 h2 hf=>by rw[hf.cell (p:=⟨y,0,none⟩) h2 (by simp;omega)];exact h1
 obtain ⟨tb,I⟩:∃tb:ByteArray,Hid (bs tb=tx C.L i):=⟨⟨(tx C.L i).toArray⟩,rfl⟩
 obtain ⟨kd,U⟩:∃x,Hid (dY (bs tb)=x):=⟨_,rfl⟩
 have au:kd≠0:=by rw[<-U.out,I.out];exact O
 have aw:(((kd:Nat):Int) != 0)=true:=by simp;omega
 have s:tx C.L i≠[]:=fun e=>by rw[e] at O;exact O (by decide)
 have aa:=h.wf.next h.lt s
 have ab:Hid (iK C.L vs rs c i=.error (4,pl C.L (i+1))):=by rw[Hid,iK,if_pos O,if_pos n]
 have ac:w.ownsRow B 126 3 v vs.length xv:=Z.good.own (iM vs v xv) (by simp)
 obtain ⟨ao,cap,rfl⟩:=aP ac
 clear O s
 go_enter Tryz.func104,Tryz.ntmps104
 go_wp2_with (first
  | (go_at_call 106;refine (eI h tb I).mono ?_;rintro e1 w1 ⟨rfl,k,u⟩;have hx1:=J.out _ _ hx Q u.wide;have ap:=u.size)
  | (go_at_call 105;refine (qP k tb kd U).mono ?_;rintro e1 w2 ⟨rfl,ag⟩;obtain rfl:=ag.symm;obtain ⟨-,d1,-⟩:=k.cells;have z1:=k.frozen 1;obtain ⟨ad,af⟩:=k.step aa;have l:=(u.wide (X:=[C.rb])).up af;have ae:=Z.carry hX Y l;have am:=J.out _ _ hx Q l;obtain ⟨y2,-⟩:=lU ae.at_ 1 (Value.slice ao vs.length cap) rfl;have an:=l.size)
  | (go_at_call 107;refine (qX ad vs.length 20 n).mono ?_;rintro e1 w3 ⟨q,rfl,hq⟩;exact ⟨rfl,by rw[ab.out];exact aR.x ⟨q,rfl,hq⟩ (l.mono j.hB (by simp)) (by omega) (by simp)⟩))
theorem Gp {C:dV}{B ba u:Nat}{w:World}{i c:Nat}{nm:bE}{vs:List bQ}{rs:List (List (St 6))}(h:PS C w i c 0 0) (y:CE C B ba u w) (hU:Jd B u w nm vs rs) (hv:vs.length≤20) (hr:rs.length≤i) (hk:dY (tx C.L i)≠0) (cc:¬20≤vs.length):Calls Tryz.prog 104 #[.pointer (some ⟨ba,0,none⟩),.pointer (some ⟨u,0,none⟩)] w (lS B [C.rb,u] (Vf C B ba u i c nm vs rs) w (iK C.L vs rs c i)):=by
 have _:=hv
 have _:=hr
 obtain ⟨v,r,xv,xr,hU⟩:=hU
 have co:=h.wf.len
 have cp:=h.lt
 have hx:=y.a
 have ac:=aH3 y.la y.hB
 have I:=y.hB
 have aw:=y.lr
 have ar:=y.lc
 have az:=y.nc
 have ce:=y.na
 have ca:=y.nac
 have Y:u∉[C.rb]:=by simp;omega
 have hX:∀x∈[C.rb],x<B:=by simp;omega
 have ae:Hid (∀(W W':World),W.cell? ⟨ba,0,none⟩=some (.pointer (some ⟨C.rb,0,none⟩))->ba<W.heap.size->Fr W.heap.size [C.rb] W W'->W'.cell? ⟨ba,0,none⟩=some (.pointer (some ⟨C.rb,0,none⟩))):=fun W W' h1 h2 hf=>by rw[hf.cell (p:=⟨ba,0,none⟩) h2 (by simp;omega)];exact h1
 obtain ⟨tb,Z⟩:∃tb:ByteArray,Hid (bs tb=tx C.L i):=⟨⟨(tx C.L i).toArray⟩,rfl⟩
 obtain ⟨i0,hi,bv,al,bw⟩:=aX6 Tryz.infoDecl
 obtain ⟨kd,ad⟩:∃x,Hid (dY (bs tb)=x):=⟨_,rfl⟩
 have ci:kd≠0:=by rw[<-ad.out,Z.out];exact hk
 have cj:(((kd:Nat):Int) != 0)=true:=by simp;omega
 have U:tx C.L i≠[]:=fun e=>by rw[e] at hk;exact hk (by decide)
 have be:=h.wf.next h.lt U
 have ak:Hid (dY (tx C.L i)=kd):=by rw[Hid,<-Z.out];exact ad.out
 have bi:∀f,Hid (dC C.L kd (i+1)=.error f)->Hid (iK C.L vs rs c i=.error f):=fun f hr=>by rw[Hid,iK,if_pos hk,if_neg (by omega),ak.out,hr.out]
 have bp:∀x j,Hid (dC C.L kd (i+1)=.ok (x,j))->Hid (iK C.L vs rs c i=.ok (some (vs++[x],rs,c,j))):=fun x j hr=>by rw[Hid,iK,if_pos hk,if_neg (by omega),ak.out,hr.out]
 have bh:w.ownsRow B 126 3 v vs.length xv:=hU.good.own (iM vs v xv) (by simp)
 obtain ⟨ao,cap,rfl⟩:=aP bh
 clear hk U
 go_enter Tryz.func104,Tryz.ntmps104
 go_upto_region 6 with (first
  | (go_at_call 106;refine (eI h tb Z).mono ?_;rintro J w1 ⟨rfl,O,aa⟩;have hx1:=ae.out _ _ hx ac aa.wide;have cn:=aa.size)
  | (go_at_call 105;refine (qP O tb kd ad).mono ?_;rintro J w2 ⟨rfl,bu⟩;obtain rfl:=bu.symm;obtain ⟨-,d1,-⟩:=O.cells;have z1:=O.frozen 1;obtain ⟨bc,am⟩:=O.step be;have n:=(aa.wide (X:=[C.rb])).up am;have ah:=hU.carry hX Y n;have bn:=ae.out _ _ hx ac n;obtain ⟨y2,-⟩:=lU ah.at_ 1 (Value.slice ao vs.length cap) rfl;have bf:=n.size)
  | (go_at_call 107;refine (kD (C:=C) vs.length 20 (by omega)).mono ?_;rintro J w3 ⟨rfl,bo⟩;obtain rfl:=bo.symm))
 clear d1 z1
 generalize (w1.setCell ⟨C.rb,1,none⟩ (.int .i64 ((i:Int)+1)))=w2 at bc am n ah bn y2 bf ⊢
 have hdr:Fr w2.heap.size [] w2 w2.drew:=(Fr.refl _ _ _).drew
 have ax:=bc.same hdr
 have bb:=aH5 I n.size
 go_region_law
  (first
   | (refine step_append_lies _ (by rfl) _ _ _ (by rfl) B 126 i0 _ 3 32 Tryz.underlying44 hi bv al bw rfl (by omega) (Value.slice ao vs.length cap) vs.length xv (by rfl) (s.good.own (iM vs _ xv) (by simp))
         ⟨l.heap.size,0,none⟩ 1 1 [.int .i64 a4.kind,sv a4.name,.int .i64 a4.first] (by rfl) (by rfl) (World.news_of_block (fr:=(0,0)) (heap_alloc_new l _)) (by intro x hx;simp[sv] at hx;rcases hx with rfl|rfl|rfl<;>rfl)
         (by omega) (by unfold maxLen;omega) (by omega) (by simp;omega) (l.heap.size+1) (by simp) ?_
      intro gg au ab aj k bq cd
      have af:∀g,(Value.slice ao vs.length cap).ownBlock=some g->B≤g:=fun g hg=>((s.good.own (iM vs _ xv) (by simp)).lt g hg).1
      have bk:=CU.grow_vars (a:=a4) s ar rfl (by rw[aH7];exact aj) k (by rcases bq with J|J;exact .inl J.symm;exact .inr (by rw[J];simp[Value.ownBlock]))
      have bm:Fr B [C.rb,u] w ab:=(((ag.mono I (by simp)).alloc ap _).grown k (by simp;omega) (fun g hg=>.inl (af g hg)))
      have av:PS C ab j4 c 0 0:=ay.low aw (((Fr.refl B [] l).alloc ap _).grown k (by simp;omega) (fun g hg=>.inl (af g hg)))
      have bz:ab.heap[u]?=some (.cells #[sv nm,Value.slice ao vs.length cap,r] 47 (0,0)):=by
       rw[k.block u (by simp;omega) (fun J=>by have:=af _ J.symm;omega)];exact s.at_
      obtain ⟨y5,ch⟩:=lU bz 1 (Value.slice ao vs.length cap) rfl)
   | (go_simp
      go_at_call 108
      refine (J1 ax kd).mono ?_
      rintro J l h4
      rcases h4.cases with ⟨f,D,q,rfl,hq⟩|⟨⟨a4,j4⟩,v4,D,rfl,⟨bj,ay⟩,Q⟩
      ·exact ⟨rfl,by rw[(bi _ D).out];exact aR.x ⟨q,rfl,hq⟩ ((n.mono I (by simp)).drew) bb (by simp)⟩
      subst bj
      have ai:=ah.carry hX Y (hdr.wide.up Q)
      have ag:=n.up (hdr.wide.up Q)
      have cf:=ae.out _ _ hx ac ag
      obtain ⟨y4,ck⟩:=lU ai.at_ 1 (Value.slice ao vs.length cap) rfl
      have cm:=aB ai.at_
      have ap:=aH5 I ag.size
      have cg:=Y8 D.out
      have br:Fr l.heap.size [] l (l.alloc (.cells #[.int .i64 a4.kind,.string ⟨a4.name.toArray⟩,.int .i64 a4.first] 126)):=(Fr.refl _ _ _).alloc (aF4 _) _
      have s:=ai.carry (X:=[]) (by simp) (by simp) br
      simp only[sv] at s ⊢))
 all_goals
  go_wp2_with fail
  go_ret
  rw[(bp _ _ D).out]
  have an:=bm.setCell (p:=⟨u,1,none⟩) (.inr (by simp)) (.slice (some ⟨gg,0,none⟩) (vs.length+1) au)
  exact ⟨_,rfl,⟨rfl,by omega,by simp;omega,by omega,av.put az _ _,y.low an,_,_,_,_,bk⟩,an⟩
theorem Gq {C:dV}{B ba y:Nat}{w:World}{i c:Nat}{nm:bE}{vs:List bQ}{rs:List (List (St 6))}(h:PS C w i c 0 0) (D:CE C B ba y w) (hU:Jd B y w nm vs rs) (hv:vs.length≤20) (hr:rs.length≤i) (hk:dY (tx C.L i)=0) (hn:tx C.L i=dL):Calls Tryz.prog 104 #[.pointer (some ⟨ba,0,none⟩),.pointer (some ⟨y,0,none⟩)] w (lS B [C.rb,y] (Vf C B ba y i c nm vs rs) w (iK C.L vs rs c i)):=by
 have _:=hv
 have _:=hr
 obtain ⟨v,r,xv,xr,hU⟩:=hU
 have ci:=h.wf.len
 have cj:=h.lt
 have hx:=D.a
 have ab:=aH3 D.la D.hB
 have J:=D.hB
 have av:=D.lr
 have an:=D.lc
 have ay:=D.nc
 have bw:=D.na
 have bu:=D.nac
 have Z:y∉[C.rb]:=by simp;omega
 have hX:∀x∈[C.rb],x<B:=by simp;omega
 have ac:Hid (∀(W W':World),W.cell? ⟨ba,0,none⟩=some (.pointer (some ⟨C.rb,0,none⟩))->ba<W.heap.size->Fr W.heap.size [C.rb] W W'->W'.cell? ⟨ba,0,none⟩=some (.pointer (some ⟨C.rb,0,none⟩))):=fun W W' h1 h2 hf=>by rw[hf.cell (p:=⟨ba,0,none⟩) h2 (by simp;omega)];exact h1
 obtain ⟨tb,aj⟩:∃tb:ByteArray,Hid (bs tb=tx C.L i):=⟨⟨(tx C.L i).toArray⟩,rfl⟩
 obtain ⟨i0,hi,bp,ak,bq⟩:=aX6 Tryz.info174
 have bc:Hid (dY (bs tb)=0):=by rw[Hid,aj.out];exact hk
 have HY:Hid _:=hn
 have bf:∀f,Hid (aW C.L 6 c (i+1)=.error f)->Hid (iK C.L vs rs c i=.error f):=fun f hr=>by rw[Hid,iK,if_neg (by rw[hk];simp),if_pos hn,hr.out]
 have bm:∀x c' j,Hid (aW C.L 6 c (i+1)=.ok (x,c',j))->Hid (iK C.L vs rs c i=.ok (some (vs,rs++[x],c',j))):=fun x c' j hr=>by rw[Hid,iK,if_neg (by rw[hk];simp),if_pos hn,hr.out]
 have bh:w.ownsRow B 174 1 r rs.length xr:=hU.good.own (dW 6 rs r xr) (by simp)
 obtain ⟨ao,cap,rfl⟩:=aP bh
 clear hk hn
 go_enter Tryz.func104,Tryz.ntmps104
 go_upto_region 8 with (first
  | (go_at_call 106;refine (eI h tb aj).mono ?_;rintro O w1 ⟨rfl,az,e⟩;have hx1:=ac.out _ _ hx ab e.wide;have ch:=e.size)
  | (go_at_call 105;refine (qP az tb 0 bc).mono ?_;rintro O w2 ⟨rfl,bo⟩;obtain rfl:=bo.symm)
  | (go_at_call 109;refine (dM az ⟨#[114,101,103,105,111,110]⟩ HY.out (by decide)).mono ?_;rintro O w2 ⟨rfl,bk,be⟩;have n:=(e.wide (X:=[C.rb])).up be;have af:=hU.carry hX Z n;have cf:=ac.out _ _ hx ab n;obtain ⟨y2,-⟩:=lU af.at_ 2 (Value.slice ao rs.length cap) rfl;have cc:=n.size))
 have hdr:Fr w2.heap.size [] w2 w2.drew:=(Fr.refl _ _ _).drew
 have aw:=bk.same hdr
 have Y:=aH5 J n.size
 go_region_law
  (first
   | (refine step_append_lies _ (by rfl) _ _ _ (by rfl) B 174 i0 _ 1 24 Tryz.underlying45 hi bp ak bq rfl (by omega) (Value.slice ao rs.length cap) rs.length xr (by rfl) (Q.good.own (dW 6 rs _ xr) (by simp))
         ⟨l.heap.size,0,none⟩ 1 1 [.slice ai n4 s] (by rfl) (by rfl) (cell_one_new l _ 174) (by intro u hu;simp at hu;subst hu;rfl)
         (by omega) (by unfold maxLen;omega) (by omega) (by simp;omega) (l.heap.size+1) (by simp) ?_
      intro gg ar aa ah k bn bv
      have ad:∀g,(Value.slice ao rs.length cap).ownBlock=some g->B≤g:=fun g hg=>((Q.good.own (dW 6 rs _ xr) (by simp)).lt g hg).1
      have bi:=CU.grow_regions (a:=a4) (u:=.slice ai n4 s) Q an Y af.lts (aM.carry (bA (X:=[]) (by simp) bb) 6 _ _ ap) (by rw[aH7];exact ah) k (by rcases bn with O|O;exact .inl O.symm;exact .inr (by rw[O];simp[Value.ownBlock]))
      have bj:Fr B [C.rb,y] w aa:=(((ae.mono J (by simp)).alloc am _).grown k (by simp;omega) (fun g hg=>.inl (ad g hg)))
      have au:PS C aa j4 c4 0 0:=ax.low av (((Fr.refl B [] l).alloc am _).grown k (by simp;omega) (fun g hg=>.inl (ad g hg)))
      have br:aa.heap[y]?=some (.cells #[sv nm,v,Value.slice ao rs.length cap] 47 (0,0)):=by
       rw[k.block y (by simp;omega) (fun O=>by have:=ad _ O.symm;omega)];exact Q.at_
      obtain ⟨y5,cd⟩:=lU br 2 (Value.slice ao rs.length cap) rfl)
   | (go_simp
      go_at_call 110
      refine (Ea 6 _ (i+1) c 0 rfl aw).mono ?_
      rintro O l h4
      rcases h4.cases with ⟨f,I,q,rfl,hq⟩|⟨⟨a4,c4,j4⟩,v4,I,rfl,⟨ap,ax⟩,U⟩
      ·exact ⟨rfl,by rw[(bf _ I).out];exact aR.x ⟨q,rfl,hq⟩ ((n.mono J (by simp)).drew) Y (by simp)⟩
      obtain ⟨ai,n4,s,rfl⟩:=aM.shape ap
      have ag:=af.carry hX Z (hdr.wide.up U)
      have ae:=n.up (hdr.wide.up U)
      have bz:=ac.out _ _ hx ab ae
      obtain ⟨y4,ce⟩:=lU ag.at_ 2 (Value.slice ao rs.length cap) rfl
      have cg:=aB ag.at_
      have am:=aH5 J ae.size
      have ca:=uW _ _ _ _ _ _ I.out
      have bb:Fr l.heap.size [] l (l.alloc (.cells #[.slice ai n4 s] 174)):=(Fr.refl _ _ _).alloc (aF4 _) _
      have Q:=ag.carry (X:=[]) (by simp) (by simp) bb))
 all_goals
  go_wp2_with fail
  go_ret
  rw[(bm _ _ _ I).out]
  have al:=bj.setCell (p:=⟨y,2,none⟩) (.inr (by simp)) (.slice (some ⟨gg,0,none⟩) (rs.length+1) ar)
  exact ⟨_,rfl,⟨rfl,by omega,by omega,by simp;omega,au.put ay _ _,D.low al,_,_,_,_,bi⟩,al⟩
theorem Gr {C:dV}{B u k:Nat}{w:World}{i c:Nat}{nm:bE}{vs:List bQ}{rs:List (List (St 6))}(h:PS C w i c 0 0) (s:CE C B u k w) (r:Jd B k w nm vs rs) (n:vs.length≤20) (l:rs.length≤i):Calls Tryz.prog 104 #[.pointer (some ⟨u,0,none⟩),.pointer (some ⟨k,0,none⟩)] w (lS B [C.rb,k] (Vf C B u k i c nm vs rs) w (iK C.L vs rs c i)):=by
 by_cases hk:dY (tx C.L i)≠0
 ·by_cases hf:20≤vs.length
  ·exact Cl h s r n l hk hf
  ·exact Gp h s r n l hk hf
 ·have j:dY (tx C.L i)=0:=by simpa using hk
  by_cases hn:tx C.L i=dL
  ·exact Gq h s r n l j hn
  ·exact Ck h s r n l j hn
end
section
open Go.RowKit Px
theorem Sg {L:List Lx.fQ}{g c i:Nat}{vs:List bQ}{rs:List (List (St 6))}{f:F}(h:iK L vs rs c i=.error f):kM L (g+1) vs rs c i=.error f:=by
 rw[iK] at h
 rw[kM]
 by_cases hk:dY (tx L i)≠0
 ·rw[if_pos hk] at h ⊢
  by_cases h2:20≤vs.length
  ·rw[if_pos h2] at h ⊢;injection h with h;subst h;rfl
  ·rw[if_neg h2] at h ⊢
   split at h
   ·rename_i hs;injection h with h;subst h;rw[hs]
   ·exact absurd h (by simp)
 ·rw[if_neg hk] at h ⊢
  by_cases hr:tx L i=dL
  ·rw[if_pos hr] at h ⊢
   split at h
   ·rename_i hs;injection h with h;subst h;rw[hs]
   ·exact absurd h (by simp)
  ·rw[if_neg hr] at h;exact absurd h (by simp)
theorem Mg {L:List Lx.fQ}{g c i n j:Nat}{vs l:List bQ}{rs k:List (List (St 6))}(h:iK L vs rs c i=.ok (some (l,k,n,j))):kM L (g+1) vs rs c i=kM L g l k n j:=by
 rw[iK] at h
 rw[kM]
 by_cases hk:dY (tx L i)≠0
 ·rw[if_pos hk] at h ⊢
  by_cases h2:20≤vs.length
  ·rw[if_pos h2] at h;exact absurd h (by simp)
  ·rw[if_neg h2] at h ⊢
   split at h
   ·exact absurd h (by simp)
   ·rename_i hs
    rw[hs]
    injection h with h;injection h with h;injection h with e1 h;injection h with e2 h;injection h with e3 e4;subst e1;subst e2;subst e3;subst e4
    rfl
 ·rw[if_neg hk] at h ⊢
  by_cases hr:tx L i=dL
  ·rw[if_pos hr] at h ⊢
   split at h
   ·exact absurd h (by simp)
   ·rename_i hs
    rw[hs]
    injection h with h;injection h with h;injection h with e1 h;injection h with e2 h;injection h with e3 e4;subst e1;subst e2;subst e3;subst e4
    rfl
  ·rw[if_neg hr] at h;exact absurd h (by simp)
theorem Mh {L:List Lx.fQ}{g c i:Nat}{vs:List bQ}{rs:List (List (St 6))}(h:iK L vs rs c i=.ok none):kM L (g+1) vs rs c i=if tx L i=jM then .ok (vs,rs,i+1) else .error (3,pl L i):=by
 rw[iK] at h
 rw[kM]
 by_cases hk:dY (tx L i)≠0
 ·rw[if_pos hk] at h
  by_cases h2:20≤vs.length
  ·rw[if_pos h2] at h;exact absurd h (by simp)
  ·rw[if_neg h2] at h
   split at h
   ·exact absurd h (by simp)
   ·exact absurd h (by simp)
 ·rw[if_neg hk] at h ⊢
  by_cases hr:tx L i=dL
  ·rw[if_pos hr] at h
   split at h
   ·exact absurd h (by simp)
   ·exact absurd h (by simp)
  ·rw[if_neg hr]
def aW3 (C:dV) (B ba cb:Nat) (nm:bE) (x:List bQ×List (List (St 6))×Nat) (v:Value) (w':World):Prop:=v=.tuple #[]/\(∃c',PS C w' x.2.2 c' 0 0)/\CE C B ba cb w'/\Jd B cb w' nm x.1 x.2.1
theorem Cp {C:dV}{B Y l i c:Nat}{w:World}{nm:bE}(h:PS C w i c 0 0) (hE:CE C B Y l w) (hU:Jd B l w nm [] []) :
    Calls Tryz.prog 103 #[.pointer (some ⟨C.rb,0,none⟩),.func (.func 104) #[] #[.pointer (some ⟨Y,0,none⟩),.pointer (some ⟨l,0,none⟩)]] w
     (lS B [C.rb,l] (aW3 C B Y l nm) w (if tx C.L i=fF then kM C.L C.L.length [] [] c (i+1) else .error (3,pl C.L i))):=by
 obtain ⟨D,u⟩:∃D,D=(if tx C.L i=fF then kM C.L C.L.length [] [] c (i+1) else .error (3,pl C.L i)):=⟨_,rfl⟩
 rw[<-u]
 have hX:∀x∈[C.rb],x<B:=by have:=hE.lr;simp;omega
 have ac:l∉[C.rb]:=by have:=hE.nc;simp;omega
 have J:∀{w1 w2:World}{vs:List bQ}{rs:List (List (St 6))},Jd B l w1 nm vs rs->Fr w1.heap.size [C.rb] w1 w2->Jd B l w2 nm vs rs:=by
  rintro w1 w2 vs rs ⟨v,r,xv,xr,hu⟩ hf
  exact ⟨v,r,xv,xr,hu.carry hX ac hf⟩
 have I:∀{w1 w2:World},CE C B Y l w1->Fr w1.heap.size [C.rb] w1 w2->CE C B Y l w2:=fun h1 hf=>h1.low (hf.mono h1.hB (by simp))
 refine V9 h _ (fun g w1=>∃(vs:List bQ) (rs:List (List (St 6))) (c1 j:Nat),D=kM C.L g vs rs c1 j/\C.L.length≤g+j/\vs.length≤20/\rs.length≤j/\PS C w1 j c1 0 0/\CE C B Y l w1/\Jd B l w1 nm vs rs/\Fr B [C.rb,l] w w1)
  (fun w2=>∃(vs:List bQ) (rs:List (List (St 6))) (c1 j:Nat),D=(if tx C.L j=jM then .ok (vs,rs,j+1) else .error (3,pl C.L j))/\PS C w2 j c1 0 0/\CE C B Y l w2/\Jd B l w2 nm vs rs/\Fr B [C.rb,l] w w2) C.L.length ?_ ?_ ?_ ?_
 ·intro hn e w' ht
  rw[u,if_neg hn]
  exact ht.x (Fr.refl _ _ _) hE.hB (by simp)
 ·intro ho w1 s k
  exact ⟨[],[],c,i+1,by rw[u,if_pos ho],by omega,by simp,by simp,s,I hE k,J hU k,k.x hE.hB⟩
 ·rintro g w1 ⟨vs,rs,c1,j,n,hg,ae,ai,s,Z,X,k⟩
  obtain ⟨g',rfl⟩:∃g',g=g'+1:=⟨g-1,by have:=s.lt;omega⟩
  refine (Gr s Z X ae ai).mono ?_
  rintro e w2 h2
  rcases h2.cases with ⟨f,y,ht⟩|⟨o,v,y,rfl,hv,ab⟩
  ·refine .inr (.inr ?_)
   obtain ⟨q,rfl,hq⟩:=ht
   refine ⟨_,rfl,?_⟩
   rw[n,Sg y.out]
   exact iV.up ⟨q,rfl,hq⟩ k
  ·cases o with
   | none=>
    obtain ⟨rfl,O,aa,Q⟩:=hv
    exact .inr (.inl ⟨rfl,vs,rs,c1,j,by rw[n,Mh y.out],O,aa,Q,k.trans ab⟩)
   | some x=>
    obtain ⟨af,ah,c2,j2⟩:=x
    obtain ⟨rfl,ak,ag,ad,O,aa,Q⟩:=hv
    exact .inl ⟨rfl,g',by omega,af,ah,c2,j2,by rw[n,Mg y.out],by omega,ag,ad,O,aa,Q,k.trans ab⟩
 ·rintro w2 ⟨vs,rs,c1,j,n,s,Z,X,k⟩
  refine ⟨j,c1,s,fun hn e w3 ht=>?_,fun ho w3 aj U=>?_⟩
  ·rw[n,if_neg hn]
   exact ht.x k (aH5 hE.hB k.size) (by simp)
  ·rw[n,if_pos ho]
   exact ⟨_,rfl,⟨rfl,⟨c1,aj⟩,I Z U,J X U⟩,k.trans (U.x (aH5 hE.hB k.size))⟩
theorem Tryz.sizeChart:(Tryz.prog.info? 47).map (·.size)=some 3:=by kernel_rfl
theorem O9 {W:World}{g:Nat}{fc:Array Value}(hsz:fc.size=3) (hg:W.heap[g]?=some (.cells fc 47 (0,0))):(loadVar 47 ⟨g,0,none⟩).run Tryz.prog W=.ok (.agg fc) W:=
 run_loadVar_row (P:=Tryz.prog) W g 47 47 fc (0,0) _ hg Tryz.underlying47 rfl (by rw[hsz];exact Tryz.sizeChart)
theorem mY (c:Array Value) (W:World) (g:Nat) (h:Array Value) (hsz:h.size=3) (l:c.getD 2 undef=.pointer (some ⟨g,0,none⟩)) (k:W.heap[g]?=some (.cells h 47 (0,0))) :
    (results Tryz.f65 c).run Tryz.prog W=.ok (.agg h) W:=by
 have j:c[2]?.getD undef=.pointer (some ⟨g,0,none⟩):=by simpa using l
 simp[results,Tryz.results65,j,asAddr,O9 hsz k]
def gQ (A:Nat->Prop) (w:World) (c:fZ) (v:Value):Prop:=∃a n m a' n' m',v=.agg #[sv c.name,.slice a n m,.slice a' n' m']/\mJ A w c.vars (.slice a n m)/\gP A w (aM A w 6) c.regions (.slice a' n' m')
theorem CU.done {B s:Nat}{w:World}{nm:bE}{vs:List bQ}{rs:List (List (St 6))}{v r:Value}{xv c:List Value}(h:CU B s w nm vs rs v r xv c):mJ (Ge B) w vs v/\gP (Ge B) w (aM (Ge B) w 6) rs r:=by
 have u:bB (sH B [iM vs v xv,dW 6 rs r c]) (Ge B) w w:=fun b hb _=>⟨hb.1,rfl⟩
 have o:=h.good.own
 have k:=h.good.has
 have j:∀x∈[iM vs v xv,dW 6 rs r c],wU (Ge B) w x.t x.sz x.v x.n x.xs:=fun x hx=>⟨qN (o x hx),fun g l=>((o x hx).lt g l).1⟩
 exact ⟨⟨xv,j (iM vs v xv) (by simp),k (iM vs v xv) (by simp)⟩,⟨c,j (dW 6 rs r c) (by simp),Nl u _ _ _ _ (k (dW 6 rs r c) (by simp))⟩⟩
theorem xC {L:List Lx.fQ}{s:bE}{f:F}(j:tx L 0=Q6) (c:nm L 1=.ok s) (h:(if tx L 2=fF then kM L L.length [] [] 0 3 else .error (3,pl L 2))=.error f):dJ L=.error f:=by
 rw[dJ,if_pos j,c]
 simp only
 by_cases ho:tx L 2=fF
 ·rw[if_pos ho] at h ⊢;rw[h]
 ·rw[if_neg ho] at h ⊢;injection h with h;subst h;rfl
theorem zH {L:List Lx.fQ}{s:bE}{vs:List bQ}{rs:List (List (St 6))}{i:Nat}(j:tx L 0=Q6) (c:nm L 1=.ok s) (h:(if tx L 2=fF then kM L L.length [] [] 0 3 else .error (3,pl L 2))=.ok (vs,rs,i)):dJ L=if kd L i=4 then .ok ⟨s,vs,rs⟩ else .error (3,pl L i):=by
 rw[dJ,if_pos j,c]
 simp only
 by_cases ho:tx L 2=fF
 ·rw[if_pos ho] at h ⊢;rw[h]
 ·rw[if_neg ho] at h;exact absurd h (by simp)
abbrev ZC:Array Value:=#[.string ⟨#[]⟩,.slice none 0 0,.slice none 0 0]
theorem H8 {C:dV}{w:World}(h:PS C w 0 0 0 0):Calls Tryz.prog 65 #[.pointer (some ⟨C.rb,0,none⟩)] w (vU C (fun c v w'=>gQ (Ge w.heap.size) w' c v) w (dJ C.L)):=by
 have hC:=h.lts.1
 have bi:∀(fn:Fn) (first cap:Array Value) (w:World),(Instr.makeFunc fn first cap).run Tryz.prog w=.ok (.func fn first cap) w:=fun _ _ _ _=>rfl
 obtain ⟨az,ax⟩:=h.alloc (.cells #[.pointer (some ⟨C.rb,0,none⟩)] 168)
 obtain ⟨af,ak⟩:=az.alloc (.cells ZC 47)
 have D:=ax.up ak
 have ay:((w.alloc (.cells #[.pointer (some ⟨C.rb,0,none⟩)] 168)).alloc (.cells ZC 47)).heap.size=w.heap.size+2:=by simp
 have x0:((w.alloc (.cells #[.pointer (some ⟨C.rb,0,none⟩)] 168)).alloc (.cells ZC 47)).cell? ⟨w.heap.size,0,none⟩=some (.pointer (some ⟨C.rb,0,none⟩)):=by simp
 have r0:((w.alloc (.cells #[.pointer (some ⟨C.rb,0,none⟩)] 168)).alloc (.cells ZC 47)).heap[w.heap.size+1]?=some (.cells ZC 47 (0,0)):=by
  have:=heap_alloc_new (w.alloc (.cells #[.pointer (some ⟨C.rb,0,none⟩)] 168)) (.cells ZC 47)
  simpa using this
 go_enter Tryz.func65,Tryz.ntmps65
 go_upto_region 1 with fail
 generalize ((w.alloc (.cells #[.pointer (some ⟨C.rb,0,none⟩)] 168)).alloc (.cells ZC 47))=W0 at af ak D ay x0 r0 ⊢
 have I:Hid (∀(W W':World),W.cell? ⟨w.heap.size,0,none⟩=some (.pointer (some ⟨C.rb,0,none⟩))->w.heap.size<W.heap.size->Fr W.heap.size [C.rb] W W'->W'.cell? ⟨w.heap.size,0,none⟩=some (.pointer (some ⟨C.rb,0,none⟩))):=fun W W' h1 h2 hf=>by rw[hf.cell (p:=⟨w.heap.size,0,none⟩) h2 (by simp;omega)];exact h1
 go_wp2_with (first
  | (go_at_call 101;refine (cD af ⟨#[99,104,97,114,116]⟩ Q6 rfl (by decide)).mono ?_;rintro e w1 h1;rcases h1.cases with ⟨f,l,q,rfl,Q⟩|⟨_,v1,l,rfl,⟨rfl,au⟩,s⟩;(· exact ⟨rfl,by rw[dJ,if_neg (aV l).1,<-(aV l).2];exact aR.up D ⟨q,rfl,Q⟩⟩);have x1:=I.out _ _ x0 (by omega) s;have bk:=s.size;have r1:=s.stays r0 (by omega))
  | (go_at_call 102;refine (eZ au).mono ?_;rintro e w2 h2;rcases h2.cases with ⟨f,u,q,rfl,Q⟩|⟨r,v2,u,rfl,⟨rfl,av⟩,y⟩;(· exact ⟨rfl,by rw[dJ,if_pos (bJ l),u.out];exact aR.up (D.up s) ⟨q,rfl,Q⟩⟩);rw[sv];have x2:=I.out _ _ x1 (by omega) y;have bj:=y.size;have r2:=y.stays r1 (by omega);obtain ⟨ao,Y⟩:=av.alloc (.cells #[.string ⟨r.toArray⟩,.slice none 0 0,.slice none 0 0] 47);have x3:=I.out _ _ x2 (by omega) Y;have r3:=Y.stays r2 (by omega);have b3:=heap_alloc_new w2 (.cells #[.string ⟨r.toArray⟩,.slice none 0 0,.slice none 0 0] 47);have ae:=((D.up s).up y).up Y;have ap:CE C (w2.heap.size+1) w.heap.size w2.heap.size (w2.alloc (.cells #[.string ⟨r.toArray⟩,.slice none 0 0,.slice none 0 0] 47)):=⟨x3,by omega,by omega,hC,by omega,by omega,by omega,aB b3⟩;have bc:Jd (w2.heap.size+1) w2.heap.size (w2.alloc (.cells #[.string ⟨r.toArray⟩,.slice none 0 0,.slice none 0 0] 47)) r [] []:=⟨_,_,[],[],b3,⟨by intro x hx;simp only[aO6,List.not_mem_nil,or_false] at hx;rcases hx with rfl|rfl<;>exact aX2 _ _ _ _,by simp[iM,dW,Value.ownBlock],by intro x hx;simp only[aO6,List.not_mem_nil,or_false] at hx;rcases hx with rfl|rfl<;>rfl⟩⟩;have am:=Cp ao ap bc;have ba:=ae.size;have bb:Hid (∀f e w5,iV (w2.heap.size+1) [C.rb,w2.heap.size] (w2.alloc (.cells #[.string ⟨r.toArray⟩,.slice none 0 0,.slice none 0 0] 47)) f e w5->aR C w f e w5):=(fun f e w5 ⟨q,h1,h2,h3,h4⟩=>⟨q,h1,h2,aH5 ba h3,ae.trans (h4.mono (by omega) (by intro x hx ab;simp at hx ⊢;omega))⟩))
  | (go_at_call 103;refine am.mono ?_;rintro e w5 h5;rcases h5.cases with ⟨f,ac,q,rfl,Q⟩|⟨⟨j,k,j5⟩,v5,ac,rfl,⟨rfl,⟨c5,J⟩,aw,ai,r5,aj,ag,Z⟩,O⟩;(· exact ⟨rfl,by rw[xC (bJ l) u.out ac.out];exact bb.out _ _ _ ⟨q,rfl,Q⟩⟩);have x5:=aw.a))
 have ah:Hid _:=zH (bJ l) u.out ac.out
 have aa:Fr w.heap.size [C.rb] w w5:=ae.trans (O.mono (by omega) (by intro x hx ab;simp at hx ⊢;omega))
 have U:w5.heap[w.heap.size+1]?=some (.cells ZC 47 (0,0)):=by rw[O.block (w.heap.size+1) (by omega) (by simp;omega)];exact r3
 obtain ⟨q0,q1,-⟩:=J.cells
 obtain ⟨t0,-,-⟩:=J.now
 have bh:(0:Int)≤(j5:Int):=Int.natCast_nonneg _
 have bf:(j5:Int)<(C.L.length:Int):=by have:=J.lt;omega
 have hdr:∀n,Fr w5.heap.size [] w5 (w5.drewN n):=fun n=>(Fr.refl _ _ _).drewN n
 by_cases hk:kd C.L j5=4
 ·have an:(((kd C.L j5:Nat):Int) != 4)=false:=by simp;omega
  have HE:Hid (dJ C.L=.ok ⟨r,j,k⟩):=by rw[Hid,ah.out,if_pos hk]
  clear hk
  have o1:w5.ownsRow (w2.heap.size+1) 126 3 ai j.length aj:=Z.good.own (iM j ai aj) (by simp)
  have o2:w5.ownsRow (w2.heap.size+1) 174 1 r5 k.length ag:=Z.good.own (dW 6 k r5 ag) (by simp)
  obtain ⟨a1,m1,rfl⟩:=aP o1
  obtain ⟨a2,m2,rfl⟩:=aP o2
  go_quiet (fail)
  have ad:=Z.carry (X:=[]) (by simp) (by simp) (hdr nq)
  have al:Fr w.heap.size [C.rb] w (w5.drewN nq):=aa.up (hdr nq).wide
  have rq:(w5.drewN nq).heap[w.heap.size+1]?=some (.cells ZC 47 (0,0)):=by rw[(hdr nq).block _ (aB U) (by simp)];exact U
  have bm:=O.size
  generalize w5.drewN nq=w6 at ad al rq ⊢
  go_wp2_with (first
   | (refine bT rfl 47 (.tmp 3) rfl ⟨w2.heap.size,0,none⟩ rfl (.agg #[sv r,.slice a1 j.length m1,.slice a2 k.length m2]) (O9 rfl ad.at_) ?_)
   | (refine wpList_store_row rfl 47 (.tmp 2) (.tmp 26) rfl (w.heap.size+1) #[sv r,.slice a1 j.length m1,.slice a2 k.length m2] rfl rfl 47 _ rq Tryz.sizeChart rfl (by simp[Value.oneCell',sv]) ?_))
  refine aX5 (mY _ _ (w.heap.size+1) #[sv r,.slice a1 j.length m1,.slice a2 k.length m2] rfl rfl (setRow_heap _ _ _ _ _ _ rq)) rfl ?_
  rw[HE.out]
  obtain ⟨d1,d2⟩:=ad.done
  have be:=sC w6 (w.heap.size+1) #[sv r,.slice a1 j.length m1,.slice a2 k.length m2]
  have kp:bB (Ge (w2.heap.size+1)) (Ge w.heap.size) w6 (w6.setRow (w.heap.size+1) #[sv r,.slice a1 j.length m1,.slice a2 k.length m2]):=fun b hb ab=>⟨by simp[Ge] at *;omega,be.block b ab (by simp[Ge] at *;omega)⟩
  exact ⟨_,rfl,⟨a1,_,m1,a2,_,m2,rfl,d1.carry kp,d2.carry kp (aM.carry kp 6)⟩,al.row (.inl (by omega)) _⟩
 ·have an:(((kd C.L j5:Nat):Int) != 4)=true:=by simp;omega
  have HE:Hid (dJ C.L=.error (3,pl C.L j5)):=by rw[Hid,ah.out,if_neg hk]
  clear hk
  go_quiet (fail)
  have ar:=J.same (hdr nq)
  have xq:=I.out _ _ x5 (by have:=aa.size;have:=O.size;have:=aB U;omega) (hdr nq).wide
  go_wp2_with (go_at_call 111;refine (gX ar 3).mono ?_;rintro e w6 ⟨q,rfl,Q⟩;exact ⟨rfl,by rw[HE.out];exact aR.up (aa.up (hdr nq).wide) ⟨q,rfl,Q⟩⟩)
end
end Go.Proofs.YthieaobjdpfcoaaGreatDoor
