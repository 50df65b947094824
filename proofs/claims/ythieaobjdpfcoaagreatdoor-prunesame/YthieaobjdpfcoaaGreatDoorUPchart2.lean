import Derived.Test.YthieaobjdpfcoaaGreatDoorUPregion2
import Derived.Deep.QuietTactic
import Derived.BigQuiet
set_option maxRecDepth 100000
set_option maxHeartbeats 8000000
namespace Go.Proofs.YthieaobjdpfcoaaGreatDoor
section
open Go.RowKit Px
theorem Tryz.infoDecl:(Tryz.prog.info? 126).map (fun i=>(i.zero,i.size,i.bytes))=some (some (.agg #[.int .i64 0,.string ⟨#[]⟩,.int .i64 0]),3,32):=by kernel_rfl
structure CU (B cb:Nat) (w:World) (nm:bE) (vs:List bQ) (rs:List (List (St 6))) (v r:Value) (xv xr:List Value):Prop where
 at_:w.heap[cb]?=some (.cells #[sv nm,v,r] 47 (0,0))
 good:jS B w [iM vs v xv,dW 6 rs r xr]
theorem nH (vs:List bQ) (rs:List (List (St 6))) (v r:Value) (xv j:List Value):iW [iM vs v xv,dW 6 rs r j]:=by
 intro x hx A k w l c
 simp only[aO6,List.not_mem_nil,or_false] at hx
 rcases hx with rfl|rfl
 ·exact fun h=>h
 ·exact Nl c _ _ _ _
theorem CU.carry {B cb:Nat}{X:List Nat}{w w':World}{nm:bE}{vs:List bQ}{rs:List (List (St 6))}{v r:Value}{xv xr:List Value}(h:CU B cb w nm vs rs v r xv xr) (hX:∀x∈X,x<B) (hs:cb∉X) (hf:Fr w.heap.size X w w'):CU B cb w' nm vs rs v r xv xr:=
 ⟨by rw[hf.block cb (aB h.at_) hs];exact h.at_,h.good.carry (nH _ _ _ _ _ _) hX hf⟩
theorem CU.lts {B cb:Nat}{w:World}{nm:bE}{vs:List bQ}{rs:List (List (St 6))}{v r:Value}{xv xr:List Value}(h:CU B cb w nm vs rs v r xv xr):∀x∈[iM vs v xv,dW 6 rs r xr],∀g,x.v.ownBlock=some g->g<w.heap.size:=fun x hx g hg=>(h.good.block x hx g hg).2
theorem CU.grow_vars {B c:Nat}{w4 w5:World}{nm:bE}{vs:List bQ}{rs:List (List (St 6))}{v r j:Value}{xv k cs:List Value}{a:bQ}(h:CU B c w4 nm vs rs v r xv k) (I:c<B)
    (Y:Jb a cs) (D:w5.ownsRow B 126 3 j ((vs++[a]).length) (xv++cs)) (O:w4.grownBy w5 v.ownBlock) (J:j.ownBlock=v.ownBlock\/j.ownBlock=some w4.heap.size) :
    CU B c (w5.setCell ⟨c,1,none⟩ j) nm (vs++[a]) rs j r (xv++cs) k:=by
 have l:jS B w4 ([]++iM vs v xv::[dW 6 rs r k]):=h.good
 have U:iW ([]++iM vs v xv::[dW 6 rs r k]):=nH vs rs v r xv k
 have hold:Rows Jb vs xv:=l.has (iM vs v xv) (by simp)
 have y:=l.grow (s':=iM (vs++[a]) j (xv++cs)) U O J D (Rows.append hold (Rows.one Y))
 have n:=cU w5 c 1 j
 have s:=aB h.at_
 refine ⟨?_,jS.carry (X:=[c]) y (nH (vs++[a]) rs j r (xv++cs) k) (by simp;exact I) n⟩
 have u:w5.heap[c]?=some (.cells #[sv nm,v,r] 47 (0,0)):=by
  rw[O.block c s (fun Q=>by have:=((h.good.own (iM vs v xv) (by simp)).lt c Q.symm).1;omega)];exact h.at_
 rw[heap_setCell_same w5 c 1 _ 47 _ u];rfl
theorem CU.grow_regions {B k n:Nat}{w4 w5:World}{nm:bE}{vs:List bQ}{rs:List (List (St 6))}{v r j u:Value}{xv c:List Value}{a:List (St 6)}(h:CU B k w4 nm vs rs v r xv c) (Z:k<B) (hB:B≤n) (hn:∀x∈[iM vs v xv,dW 6 rs r c],∀g,x.v.ownBlock=some g->g<n)
    (ha:aM (Ge n) w4 6 a u) (Q:w5.ownsRow B 174 1 j ((rs++[a]).length) (c++[u])) (U:w4.grownBy w5 r.ownBlock) (y:j.ownBlock=r.ownBlock\/j.ownBlock=some w4.heap.size) :
    CU B k (w5.setCell ⟨k,2,none⟩ j) nm vs (rs++[a]) v j xv (c++[u]):=by
 have l:jS B w4 ([iM vs v xv]++dW 6 rs r c::[]):=h.good
 have hc:iW ([iM vs v xv]++dW 6 rs r c::[]):=nH vs rs v r xv c
 have kN:=oG (s':=dW 6 (rs++[a]) j (c++[u])) l hn hB U y
 have Y:Yz (aM (sH B ([iM vs v xv]++dW 6 (rs++[a]) j (c++[u])::[])) w5 6) a [u]:=⟨u,rfl,aM.carry kN 6 _ _ ha⟩
 have hold:=Nl (kB (B:=B) (l1:=[iM vs v xv]) (l2:=[]) (s:=dW 6 rs r c) (s':=dW 6 (rs++[a]) j (c++[u])) U y) _ _ _ _ (l.has (dW 6 rs r c) (by simp))
 have O:=l.grow (s':=dW 6 (rs++[a]) j (c++[u])) hc U y Q (Rows.append hold (Rows.one Y))
 have D:=cU w5 k 2 j
 have I:=aB h.at_
 refine ⟨?_,jS.carry (X:=[k]) O (nH vs (rs++[a]) v j xv (c++[u])) (by simp;exact Z) D⟩
 have J:w5.heap[k]?=some (.cells #[sv nm,v,r] 47 (0,0)):=by
  rw[U.block k I (fun e=>by have:=((h.good.own (dW 6 rs r c) (by simp)).lt k e.symm).1;omega)];exact h.at_
 rw[heap_setCell_same w5 k 2 _ 47 _ J];rfl
def iK (L:List Lx.fQ) (vs:List bQ) (rs:List (List (St 6))) (c i:Nat):Except F (Option (List bQ×List (List (St 6))×Nat×Nat)):=
 if dY (tx L i)≠0 then
  if 20≤vs.length then .error (4,pl L (i+1))
  else match dC L (dY (tx L i)) (i+1) with
   | .error x=>.error x
   | .ok (v,j)=>.ok (some (vs++[v],rs,c,j))
 else if tx L i=dL then
  match aW L 6 c (i+1) with
  | .error x=>.error x
  | .ok (l,c',j)=>.ok (some (vs,rs++[l],c',j))
 else .ok none
structure CE (C:dV) (B ba cb:Nat) (w:World):Prop where
 a:w.cell? ⟨ba,0,none⟩=some (.pointer (some ⟨C.rb,0,none⟩))
 la:ba<B
 lc:cb<B
 na:C.rb<ba
 nc:C.rb<cb
 nac:ba≠cb
 lr:C.rb<B
 hB:B≤w.heap.size
theorem CE.low {C:dV}{B j c:Nat}{w w':World}(h:CE C B j c w) (k:Fr B [C.rb,c] w w'):CE C B j c w':=by
 have n:=h.na
 have l:=h.nac
 exact ⟨by rw[k.cell (p:=⟨j,0,none⟩) h.la (by simp;omega)];exact h.a,h.la,h.lc,n,h.nc,l,h.lr,aH5 h.hB k.size⟩
def Jd (B cb:Nat) (w:World) (nm:bE) (vs:List bQ) (rs:List (List (St 6))):Prop:=∃v r xv xr,CU B cb w nm vs rs v r xv xr
def Vf (C:dV) (B ba cb i c:Nat) (nm:bE) (vs:List bQ) (rs:List (List (St 6))):Option (List bQ×List (List (St 6))×Nat×Nat)->Value->World->Prop
 | none,v,w'=>v=.bool false/\PS C w' i c 0 0/\CE C B ba cb w'/\Jd B cb w' nm vs rs
 | some (vs',rs',c',j),v,w'=>v=.bool true/\i<j/\vs'.length≤20/\rs'.length≤j/\PS C w' j c' 0 0/\CE C B ba cb w'/\Jd B cb w' nm vs' rs'
theorem Ti {L:List Lx.fQ}{i j:Nat}{n:Int}(h:first L i=.ok (n,j)):i≤j:=by
 rw[first] at h
 split at h
 ·split at h
  ·split at h
   ·exact absurd h (by simp)
   ·injection h with h;injection h with _ h;omega
  ·split at h
   ·exact absurd h (by simp)
   ·injection h with h;injection h with _ h;omega
 ·injection h with h;injection h with _ h;omega
theorem Y8 {L:List Lx.fQ}{kind i j:Nat}{v:bQ}(h:dC L kind i=.ok (v,j)):i<j:=by
 rw[dC] at h
 split at h
 ·exact absurd h (by simp)
 ·split at h
  ·exact absurd h (by simp)
  ·rename_i hf
   have:=Ti hf
   split at h
   ·injection h with h;injection h with _ h;omega
   ·exact absurd h (by simp)
theorem qP {C:dV}{w:World}{i st ins c:Nat}(h:PS C w i st ins c) (tb:ByteArray) (n:Nat) (j:Hid (dY (bs tb)=n)):Calls Tryz.prog 105 #[.string tb] w fun e w'=>e=.returned (.int .i64 n)/\w'=w:=by
 refine (Fi tb w h.tab).mono ?_
 rintro e w' ⟨rfl,rfl⟩
 exact ⟨by rw[j.out],rfl⟩
theorem Ck {C:dV}{B k n:Nat}{w:World}{i c:Nat}{nm:bE}{vs:List bQ}{rs:List (List (St 6))}(h:PS C w i c 0 0) (j:CE C B k n w) (J:Jd B n w nm vs rs) (hv:vs.length≤20) (hr:rs.length≤i) (O:dY (tx C.L i)=0) (hn:tx C.L i≠dL):Calls Tryz.prog 104 #[.pointer (some ⟨k,0,none⟩),.pointer (some ⟨n,0,none⟩)] w (lS B [C.rb,n] (Vf C B k n i c nm vs rs) w (iK C.L vs rs c i)):=by
 have _:=hv
 have _:=hr
 obtain ⟨v,r,xv,xr,J⟩:=J
 have af:=h.wf.len
 have ag:=h.lt
 have hx:=j.a
 have e:=aH3 j.la j.hB
 have ai:=j.hB
 have aa:=j.lr
 have ab:=j.lc
 have ad:=j.nc
 have ae:=j.na
 have ac:=j.nac
 have y:n∉[C.rb]:=by simp;omega
 have hX:∀x∈[C.rb],x<B:=by simp;omega
 have I:Hid (∀(W Z:World),W.cell? ⟨k,0,none⟩=some (.pointer (some ⟨C.rb,0,none⟩))->k<W.heap.size->Fr W.heap.size [C.rb] W Z->Z.cell? ⟨k,0,none⟩=some (.pointer (some ⟨C.rb,0,none⟩))):=fun W Z h1 h2 hf=>by rw[hf.cell (p:=⟨k,0,none⟩) h2 (by simp;omega)];exact h1
 obtain ⟨tb,u⟩:∃tb:ByteArray,Hid (bs tb=tx C.L i):=⟨⟨(tx C.L i).toArray⟩,rfl⟩
 have U:Hid (dY (bs tb)=0):=by rw[Hid,u.out];exact O
 have HN:Hid _:=hn
 have D:Hid (iK C.L vs rs c i=.ok none):=by rw[Hid,iK,if_neg (by rw[O];simp),if_neg hn]
 clear O hn
 go_enter Tryz.func104,Tryz.ntmps104
 go_wp2_with (first
  | (go_at_call 106;refine (eI h tb u).mono ?_;rintro e1 w1 ⟨rfl,s,l⟩;have hx1:=I.out _ _ hx e l.wide;have ah:=l.size)
  | (go_at_call 105;refine (qP s tb 0 U).mono ?_;rintro e1 w2 ⟨rfl,X⟩;obtain rfl:=X.symm)
  | (go_at_call 109;refine (cN s ⟨#[114,101,103,105,111,110]⟩ HN.out).mono ?_;rintro e1 w3 ⟨rfl,Q,Y⟩))
 go_ret
 rw[D.out]
 have hF:Fr w.heap.size [C.rb] w w3:=(l.wide).up Y.wide
 exact ⟨_,rfl,⟨rfl,Q,j.low (hF.mono j.hB (by simp)),_,_,_,_,J.carry hX y hF⟩,hF.mono j.hB (by simp)⟩
theorem Cl {C:dV}{B u D:Nat}{w:World}{i c:Nat}{nm:bE}{vs:List bQ}{rs:List (List (St 6))}(h:PS C w i c 0 0) (j:CE C B u D w) (Z:Jd B D w nm vs rs) (hv:vs.length≤20) (hr:rs.length≤i) (J:dY (tx C.L i)≠0) (s:20≤vs.length):Calls Tryz.prog 104 #[.pointer (some ⟨u,0,none⟩),.pointer (some ⟨D,0,none⟩)] w (lS B [C.rb,D] (Vf C B u D i c nm vs rs) w (iK C.L vs rs c i)):=by
 have _:=hv
 have _:=hr
 obtain ⟨v,r,xv,xr,Z⟩:=Z
 have am:=h.wf.len
 have ar:=h.lt
 have hx:=j.a
 have U:=aH3 j.la j.hB
 have ax:=j.hB
 have ah:=j.lr
 have ai:=j.lc
 have ak:=j.nc
 have al:=j.na
 have aj:=j.nac
 have Q:D∉[C.rb]:=by simp;omega
 have hX:∀x∈[C.rb],x<B:=by simp;omega
 have I:Hid (∀(W W':World),W.cell? ⟨u,0,none⟩=some (.pointer (some ⟨C.rb,0,none⟩))->u<W.heap.size->Fr W.heap.size [C.rb] W W'->W'.cell? ⟨u,0,none⟩=some (.pointer (some ⟨C.rb,0,none⟩))):=fun W W' h1 h2 hf=>by rw[hf.cell (p:=⟨u,0,none⟩) h2 (by simp;omega)];exact h1
 obtain ⟨tb,O⟩:∃tb:ByteArray,Hid (bs tb=tx C.L i):=⟨⟨(tx C.L i).toArray⟩,rfl⟩
 obtain ⟨kd,Y⟩:∃x,Hid (dY (bs tb)=x):=⟨_,rfl⟩
 have ap:kd≠0:=by rw[<-Y.out,O.out];exact J
 have an:(((kd:Nat):Int) != 0)=true:=by simp;omega
 have n:tx C.L i≠[]:=fun e=>by rw[e] at J;exact J (by decide)
 have af:=h.wf.next h.lt n
 have ab:Hid (iK C.L vs rs c i=.error (4,pl C.L (i+1))):=by rw[Hid,iK,if_pos J,if_pos s]
 have ag:w.ownsRow B 126 3 v vs.length xv:=Z.good.own (iM vs v xv) (by simp)
 obtain ⟨ao,cap,rfl⟩:=aP ag
 clear J n
 go_enter Tryz.func104,Tryz.ntmps104
 go_wp2_with (first
  | (go_at_call 106;refine (eI h tb O).mono ?_;rintro e1 w1 ⟨rfl,k,y⟩;have hx1:=I.out _ _ hx U y.wide;have av:=y.size)
  | (go_at_call 105;refine (qP k tb kd Y).mono ?_;rintro e1 w2 ⟨rfl,ae⟩;obtain rfl:=ae.symm;obtain ⟨-,d1,-⟩:=k.cells;have z1:=k.frozen 1;obtain ⟨ac,aa⟩:=k.step af;have l:=(y.wide (X:=[C.rb])).up aa;have ad:=Z.carry hX Q l;have aw:=I.out _ _ hx U l;obtain ⟨y2,-⟩:=lU ad.at_ 1 (Value.slice ao vs.length cap) rfl;have au:=l.size)
  | (go_at_call 107;refine (qX ac vs.length 20 s).mono ?_;rintro e1 w3 ⟨q,rfl,hq⟩;exact ⟨rfl,by rw[ab.out];exact aR.x ⟨q,rfl,hq⟩ (l.mono j.hB (by simp)) (by omega) (by simp)⟩))
theorem Gp {C:dV}{B ba y:Nat}{w:World}{i c:Nat}{nm:bE}{vs:List bQ}{rs:List (List (St 6))}(h:PS C w i c 0 0) (u:CE C B ba y w) (hU:Jd B y w nm vs rs) (hv:vs.length≤20) (hr:rs.length≤i) (hk:dY (tx C.L i)≠0) (cd:¬20≤vs.length):Calls Tryz.prog 104 #[.pointer (some ⟨ba,0,none⟩),.pointer (some ⟨y,0,none⟩)] w (lS B [C.rb,y] (Vf C B ba y i c nm vs rs) w (iK C.L vs rs c i)):=by
 have _:=hv
 have _:=hr
 obtain ⟨v,r,xv,xr,hU⟩:=hU
 have cf:=h.wf.len
 have cj:=h.lt
 have hx:=u.a
 have aj:=aH3 u.la u.hB
 have O:=u.hB
 have al:=u.lr
 have aw:=u.lc
 have ax:=u.nc
 have cc:=u.na
 have ca:=u.nac
 have Y:y∉[C.rb]:=by simp;omega
 have hX:∀x∈[C.rb],x<B:=by simp;omega
 have ad:Hid (∀(W W':World),W.cell? ⟨ba,0,none⟩=some (.pointer (some ⟨C.rb,0,none⟩))->ba<W.heap.size->Fr W.heap.size [C.rb] W W'->W'.cell? ⟨ba,0,none⟩=some (.pointer (some ⟨C.rb,0,none⟩))):=fun W W' h1 h2 hf=>by rw[hf.cell (p:=⟨ba,0,none⟩) h2 (by simp;omega)];exact h1
 obtain ⟨tb,Z⟩:∃tb:ByteArray,Hid (bs tb=tx C.L i):=⟨⟨(tx C.L i).toArray⟩,rfl⟩
 obtain ⟨i0,hi,bk,ay,bo⟩:=aX6 Tryz.infoDecl
 obtain ⟨kd,aa⟩:∃x,Hid (dY (bs tb)=x):=⟨_,rfl⟩
 have cg:kd≠0:=by rw[<-aa.out,Z.out];exact hk
 have cm:(((kd:Nat):Int) != 0)=true:=by simp;omega
 have U:tx C.L i≠[]:=fun e=>by rw[e] at hk;exact hk (by decide)
 have br:=h.wf.next h.lt U
 have bb:Hid (dY (tx C.L i)=kd):=by rw[Hid,<-Z.out];exact aa.out
 have bf:∀f,Hid (dC C.L kd (i+1)=.error f)->Hid (iK C.L vs rs c i=.error f):=fun f hr=>by rw[Hid,iK,if_pos hk,if_neg (by omega),bb.out,hr.out]
 have be:∀x j,Hid (dC C.L kd (i+1)=.ok (x,j))->Hid (iK C.L vs rs c i=.ok (some (vs++[x],rs,c,j))):=fun x j hr=>by rw[Hid,iK,if_pos hk,if_neg (by omega),bb.out,hr.out]
 have bw:w.ownsRow B 126 3 v vs.length xv:=hU.good.own (iM vs v xv) (by simp)
 obtain ⟨ao,cap,rfl⟩:=aP bw
 clear hk U
 go_enter Tryz.func104,Tryz.ntmps104
 go_upto_region 6 with (first
  | (go_at_call 106;refine (eI h tb Z).mono ?_;rintro D w1 ⟨rfl,J,ac⟩;have hx1:=ad.out _ _ hx aj ac.wide;have cn:=ac.size)
  | (go_at_call 105;refine (qP J tb kd aa).mono ?_;rintro D w2 ⟨rfl,bi⟩;obtain rfl:=bi.symm;obtain ⟨-,d1,-⟩:=J.cells;have z1:=J.frozen 1;obtain ⟨av,ak⟩:=J.step br;have l:=(ac.wide (X:=[C.rb])).up ak;have ae:=hU.carry hX Y l;have bq:=ad.out _ _ hx aj l;obtain ⟨y2,-⟩:=lU ae.at_ 1 (Value.slice ao vs.length cap) rfl;have bp:=l.size)
  | (go_at_call 107;refine (kD (C:=C) vs.length 20 (by omega)).mono ?_;rintro D w3 ⟨rfl,bh⟩;obtain rfl:=bh.symm))
 clear d1 z1
 generalize (w1.setCell ⟨C.rb,1,none⟩ (.int .i64 ((i:Int)+1)))=w2 at av ak l ae bq y2 bp ⊢
 have hdr:Fr w2.heap.size [] w2 w2.drew:=(Fr.refl _ _ _).drew
 have ar:=av.same hdr
 have au:=aH5 O l.size
 go_region_law
  (first
   | (refine step_append_lies _ (by rfl) _ _ _ (by rfl) B 126 i0 _ 3 32 Tryz.underlying44 hi bk ay bo rfl (by omega) (Value.slice ao vs.length cap) vs.length xv (by rfl) (s.good.own (iM vs _ xv) (by simp))
         ⟨n.heap.size,0,none⟩ 1 1 [.int .i64 a4.kind,sv a4.name,.int .i64 a4.first] (by rfl) (by rfl) (World.news_of_block (fr:=(0,0)) (heap_alloc_new n _)) (by intro x hx;simp[sv] at hx;rcases hx with rfl|rfl|rfl<;>rfl)
         (by omega) (by unfold maxLen;omega) (by omega) (by simp;omega) (n.heap.size+1) (by simp) ?_
      intro gg an ab af k bm ce
      have ag:∀g,(Value.slice ao vs.length cap).ownBlock=some g->B≤g:=fun g hg=>((s.good.own (iM vs _ xv) (by simp)).lt g hg).1
      have bz:=CU.grow_vars (a:=a4) s aw rfl (by rw[aH7];exact af) k (by rcases bm with D|D;exact .inl D.symm;exact .inr (by rw[D];simp[Value.ownBlock]))
      have bu:Fr B [C.rb,y] w ab:=(((ah.mono O (by simp)).alloc am _).grown k (by simp;omega) (fun g hg=>.inl (ag g hg)))
      have bc:PS C ab j4 c 0 0:=az.low al (((Fr.refl B [] n).alloc am _).grown k (by simp;omega) (fun g hg=>.inl (ag g hg)))
      have bn:ab.heap[y]?=some (.cells #[sv nm,Value.slice ao vs.length cap,r] 47 (0,0)):=by
       rw[k.block y (by simp;omega) (fun D=>by have:=ag _ D.symm;omega)];exact s.at_
      obtain ⟨y5,ck⟩:=lU bn 1 (Value.slice ao vs.length cap) rfl)
   | (go_simp
      go_at_call 108
      refine (J1 ar kd).mono ?_
      rintro D n h4
      rcases h4.cases with ⟨f,I,q,rfl,hq⟩|⟨⟨a4,j4⟩,v4,I,rfl,⟨bv,az⟩,Q⟩
      ·exact ⟨rfl,by rw[(bf _ I).out];exact aR.x ⟨q,rfl,hq⟩ ((l.mono O (by simp)).drew) au (by simp)⟩
      subst bv
      have ai:=ae.carry hX Y (hdr.wide.up Q)
      have ah:=l.up (hdr.wide.up Q)
      have cp:=ad.out _ _ hx aj ah
      obtain ⟨y4,ci⟩:=lU ai.at_ 1 (Value.slice ao vs.length cap) rfl
      have co:=aB ai.at_
      have am:=aH5 O ah.size
      have ch:=Y8 I.out
      have bj:Fr n.heap.size [] n (n.alloc (.cells #[.int .i64 a4.kind,.string ⟨a4.name.toArray⟩,.int .i64 a4.first] 126)):=(Fr.refl _ _ _).alloc (aF4 _) _
      have s:=ai.carry (X:=[]) (by simp) (by simp) bj
      simp only[sv] at s ⊢))
 all_goals
  go_wp2_with fail
  go_ret
  rw[(be _ _ I).out]
  have ap:=bu.setCell (p:=⟨y,1,none⟩) (.inr (by simp)) (.slice (some ⟨gg,0,none⟩) (vs.length+1) an)
  exact ⟨_,rfl,⟨rfl,by omega,by simp;omega,by omega,bc.put ax _ _,u.low ap,_,_,_,_,bz⟩,ap⟩
theorem Gq {C:dV}{B e D:Nat}{w:World}{i c:Nat}{nm:bE}{vs:List bQ}{rs:List (List (St 6))}(h:PS C w i c 0 0) (y:CE C B e D w) (hU:Jd B D w nm vs rs) (hv:vs.length≤20) (hr:rs.length≤i) (hk:dY (tx C.L i)=0) (hn:tx C.L i=dL):Calls Tryz.prog 104 #[.pointer (some ⟨e,0,none⟩),.pointer (some ⟨D,0,none⟩)] w (lS B [C.rb,D] (Vf C B e D i c nm vs rs) w (iK C.L vs rs c i)):=by
 have _:=hv
 have _:=hr
 obtain ⟨v,r,xv,xr,hU⟩:=hU
 have ca:=h.wf.len
 have ce:=h.lt
 have hx:=y.a
 have ai:=aH3 y.la y.hB
 have Q:=y.hB
 have ak:=y.lr
 have aw:=y.lc
 have ax:=y.nc
 have bw:=y.na
 have bv:=y.nac
 have Z:D∉[C.rb]:=by simp;omega
 have hX:∀x∈[C.rb],x<B:=by simp;omega
 have ac:Hid (∀(W W':World),W.cell? ⟨e,0,none⟩=some (.pointer (some ⟨C.rb,0,none⟩))->e<W.heap.size->Fr W.heap.size [C.rb] W W'->W'.cell? ⟨e,0,none⟩=some (.pointer (some ⟨C.rb,0,none⟩))):=fun W W' h1 h2 hf=>by rw[hf.cell (p:=⟨e,0,none⟩) h2 (by simp;omega)];exact h1
 obtain ⟨tb,am⟩:∃tb:ByteArray,Hid (bs tb=tx C.L i):=⟨⟨(tx C.L i).toArray⟩,rfl⟩
 obtain ⟨i0,hi,bk,ay,bo⟩:=aX6 Tryz.info174
 have bj:Hid (dY (bs tb)=0):=by rw[Hid,am.out];exact hk
 have HY:Hid _:=hn
 have bh:∀f,Hid (aW C.L 6 c (i+1)=.error f)->Hid (iK C.L vs rs c i=.error f):=fun f hr=>by rw[Hid,iK,if_neg (by rw[hk];simp),if_pos hn,hr.out]
 have bf:∀x c' j,Hid (aW C.L 6 c (i+1)=.ok (x,c',j))->Hid (iK C.L vs rs c i=.ok (some (vs,rs++[x],c',j))):=fun x c' j hr=>by rw[Hid,iK,if_neg (by rw[hk];simp),if_pos hn,hr.out]
 have bq:w.ownsRow B 174 1 r rs.length xr:=hU.good.own (dW 6 rs r xr) (by simp)
 obtain ⟨ao,cap,rfl⟩:=aP bq
 clear hk hn
 go_enter Tryz.func104,Tryz.ntmps104
 go_upto_region 8 with (first
  | (go_at_call 106;refine (eI h tb am).mono ?_;rintro J w1 ⟨rfl,av,ab⟩;have hx1:=ac.out _ _ hx ai ab.wide;have ch:=ab.size)
  | (go_at_call 105;refine (qP av tb 0 bj).mono ?_;rintro J w2 ⟨rfl,bi⟩;obtain rfl:=bi.symm)
  | (go_at_call 109;refine (dM av ⟨#[114,101,103,105,111,110]⟩ HY.out (by decide)).mono ?_;rintro J w2 ⟨rfl,bp,be⟩;have n:=(ab.wide (X:=[C.rb])).up be;have ad:=hU.carry hX Z n;have ci:=ac.out _ _ hx ai n;obtain ⟨y2,-⟩:=lU ad.at_ 2 (Value.slice ao rs.length cap) rfl;have cg:=n.size))
 have hdr:Fr w2.heap.size [] w2 w2.drew:=(Fr.refl _ _ _).drew
 have au:=bp.same hdr
 have Y:=aH5 Q n.size
 go_region_law
  (first
   | (refine step_append_lies _ (by rfl) _ _ _ (by rfl) B 174 i0 _ 1 24 Tryz.underlying45 hi bk ay bo rfl (by omega) (Value.slice ao rs.length cap) rs.length xr (by rfl) (I.good.own (dW 6 rs _ xr) (by simp))
         ⟨l.heap.size,0,none⟩ 1 1 [.slice aj n4 s] (by rfl) (by rfl) (cell_one_new l _ 174) (by intro u hu;simp at hu;subst hu;rfl)
         (by omega) (by unfold maxLen;omega) (by omega) (by simp;omega) (l.heap.size+1) (by simp) ?_
      intro gg ap aa ae k bm bz
      have af:∀g,(Value.slice ao rs.length cap).ownBlock=some g->B≤g:=fun g hg=>((I.good.own (dW 6 rs _ xr) (by simp)).lt g hg).1
      have bu:=CU.grow_regions (a:=a4) (u:=.slice aj n4 s) I aw Y ad.lts (aM.carry (bA (X:=[]) (by simp) an) 6 _ _ bb) (by rw[aH7];exact ae) k (by rcases bm with J|J;exact .inl J.symm;exact .inr (by rw[J];simp[Value.ownBlock]))
      have br:Fr B [C.rb,D] w aa:=(((ag.mono Q (by simp)).alloc al _).grown k (by simp;omega) (fun g hg=>.inl (af g hg)))
      have bc:PS C aa j4 c4 0 0:=az.low ak (((Fr.refl B [] l).alloc al _).grown k (by simp;omega) (fun g hg=>.inl (af g hg)))
      have bn:aa.heap[D]?=some (.cells #[sv nm,v,Value.slice ao rs.length cap] 47 (0,0)):=by
       rw[k.block D (by simp;omega) (fun J=>by have:=af _ J.symm;omega)];exact I.at_
      obtain ⟨y5,cf⟩:=lU bn 2 (Value.slice ao rs.length cap) rfl)
   | (go_simp
      go_at_call 110
      refine (Ea 6 _ (i+1) c 0 rfl au).mono ?_
      rintro J l h4
      rcases h4.cases with ⟨f,O,q,rfl,hq⟩|⟨⟨a4,c4,j4⟩,v4,O,rfl,⟨bb,az⟩,U⟩
      ·exact ⟨rfl,by rw[(bh _ O).out];exact aR.x ⟨q,rfl,hq⟩ ((n.mono Q (by simp)).drew) Y (by simp)⟩
      obtain ⟨aj,n4,s,rfl⟩:=aM.shape bb
      have ah:=ad.carry hX Z (hdr.wide.up U)
      have ag:=n.up (hdr.wide.up U)
      have ck:=ac.out _ _ hx ai ag
      obtain ⟨y4,cd⟩:=lU ah.at_ 2 (Value.slice ao rs.length cap) rfl
      have cj:=aB ah.at_
      have al:=aH5 Q ag.size
      have cc:=uW _ _ _ _ _ _ O.out
      have an:Fr l.heap.size [] l (l.alloc (.cells #[.slice aj n4 s] 174)):=(Fr.refl _ _ _).alloc (aF4 _) _
      have I:=ah.carry (X:=[]) (by simp) (by simp) an))
 all_goals
  go_wp2_with fail
  go_ret
  rw[(bf _ _ _ O).out]
  have ar:=br.setCell (p:=⟨D,2,none⟩) (.inr (by simp)) (.slice (some ⟨gg,0,none⟩) (rs.length+1) ap)
  exact ⟨_,rfl,⟨rfl,by omega,by omega,by simp;omega,bc.put ax _ _,y.low ar,_,_,_,_,bu⟩,ar⟩
theorem Gr {C:dV}{B u k:Nat}{w:World}{i c:Nat}{nm:bE}{vs:List bQ}{rs:List (List (St 6))}(h:PS C w i c 0 0) (n:CE C B u k w) (r:Jd B k w nm vs rs) (s:vs.length≤20) (l:rs.length≤i):Calls Tryz.prog 104 #[.pointer (some ⟨u,0,none⟩),.pointer (some ⟨k,0,none⟩)] w (lS B [C.rb,k] (Vf C B u k i c nm vs rs) w (iK C.L vs rs c i)):=by
 by_cases hk:dY (tx C.L i)≠0
 ·by_cases hf:20≤vs.length
  ·exact Cl h n r s l hk hf
  ·exact Gp h n r s l hk hf
 ·have j:dY (tx C.L i)=0:=by simpa using hk
  by_cases hn:tx C.L i=dL
  ·exact Gq h n r s l j hn
  ·exact Ck h n r s l j hn
end
section
open Go.RowKit Px
theorem Sg {L:List Lx.fQ}{g c i:Nat}{vs:List bQ}{rs:List (List (St 6))}{f:F}(h:iK L vs rs c i=.error f):kM L (g+1) vs rs c i=.error f:=by
 rw[iK] at h
 rw[kM]
 by_cases hk:dY (tx L i)≠0
 ·rw[if_pos hk] at h ⊢
  by_cases h2:20≤vs.length
  ·rw[if_pos h2] at h ⊢;injection h with h;subst h;rfl
  ·rw[if_neg h2] at h ⊢
   split at h
   ·rename_i hs;injection h with h;subst h;rw[hs]
   ·exact absurd h (by simp)
 ·rw[if_neg hk] at h ⊢
  by_cases hr:tx L i=dL
  ·rw[if_pos hr] at h ⊢
   split at h
   ·rename_i hs;injection h with h;subst h;rw[hs]
   ·exact absurd h (by simp)
  ·rw[if_neg hr] at h;exact absurd h (by simp)
theorem Mg {L:List Lx.fQ}{g c i n j:Nat}{vs k:List bQ}{rs l:List (List (St 6))}(h:iK L vs rs c i=.ok (some (k,l,n,j))):kM L (g+1) vs rs c i=kM L g k l n j:=by
 rw[iK] at h
 rw[kM]
 by_cases hk:dY (tx L i)≠0
 ·rw[if_pos hk] at h ⊢
  by_cases h2:20≤vs.length
  ·rw[if_pos h2] at h;exact absurd h (by simp)
  ·rw[if_neg h2] at h ⊢
   split at h
   ·exact absurd h (by simp)
   ·rename_i hs
    rw[hs]
    injection h with h;injection h with h;injection h with e1 h;injection h with e2 h;injection h with e3 e4;subst e1;subst e2;subst e3;subst e4
    rfl
 ·rw[if_neg hk] at h ⊢
  by_cases hr:tx L i=dL
  ·rw[if_pos hr] at h ⊢
   split at h
   ·exact absurd h (by simp)
   ·rename_i hs
    rw[hs]
    injection h with h;injection h with h;injection h with e1 h;injection h with e2 h;injection h with e3 e4;subst e1;subst e2;subst e3;subst e4
    rfl
  ·rw[if_neg hr] at h;exact absurd h (by simp)
theorem Mh {L:List Lx.fQ}{g c i:Nat}{vs:List bQ}{rs:List (List (St 6))}(h:iK L vs rs c i=.ok none):kM L (g+1) vs rs c i=if tx L i=jM then .ok (vs,rs,i+1) else .error (3,pl L i):=by
 rw[iK] at h
 rw[kM]
 by_cases hk:dY (tx L i)≠0
 ·rw[if_pos hk] at h
  by_cases h2:20≤vs.length
  ·rw[if_pos h2] at h;exact absurd h (by simp)
  ·rw[if_neg h2] at h
   split at h
   ·exact absurd h (by simp)
   ·exact absurd h (by simp)
 ·rw[if_neg hk] at h ⊢
  by_cases hr:tx L i=dL
  ·rw[if_pos hr] at h
   split at h
   ·exact absurd h (by simp)
   ·exact absurd h (by simp)
  ·rw[if_neg hr]
def aW3 (C:dV) (B ba cb:Nat) (nm:bE) (x:List bQ×List (List (St 6))×Nat) (v:Value) (w':World):Prop:=v=.tuple #[]/\(∃c',PS C w' x.2.2 c' 0 0)/\CE C B ba cb w'/\Jd B cb w' nm x.1 x.2.1
theorem Cp {C:dV}{B ba l i c:Nat}{w:World}{nm:bE}(h:PS C w i c 0 0) (Y:CE C B ba l w) (hU:Jd B l w nm [] []) :
    Calls Tryz.prog 103 #[.pointer (some ⟨C.rb,0,none⟩),.func (.func 104) #[] #[.pointer (some ⟨ba,0,none⟩),.pointer (some ⟨l,0,none⟩)]] w
     (lS B [C.rb,l] (aW3 C B ba l nm) w (if tx C.L i=fF then kM C.L C.L.length [] [] c (i+1) else .error (3,pl C.L i))):=by
 obtain ⟨y,u⟩:∃y,y=(if tx C.L i=fF then kM C.L C.L.length [] [] c (i+1) else .error (3,pl C.L i)):=⟨_,rfl⟩
 rw[<-u]
 have hX:∀x∈[C.rb],x<B:=by have:=Y.lr;simp;omega
 have ac:l∉[C.rb]:=by have:=Y.nc;simp;omega
 have J:∀{w1 w2:World}{vs:List bQ}{rs:List (List (St 6))},Jd B l w1 nm vs rs->Fr w1.heap.size [C.rb] w1 w2->Jd B l w2 nm vs rs:=by
  rintro w1 w2 vs rs ⟨v,r,xv,xr,hu⟩ hf
  exact ⟨v,r,xv,xr,hu.carry hX ac hf⟩
 have I:∀{w1 w2:World},CE C B ba l w1->Fr w1.heap.size [C.rb] w1 w2->CE C B ba l w2:=fun h1 hf=>h1.low (hf.mono h1.hB (by simp))
 refine V9 h _ (fun g w1=>∃(vs:List bQ) (rs:List (List (St 6))) (c1 j:Nat),y=kM C.L g vs rs c1 j/\C.L.length≤g+j/\vs.length≤20/\rs.length≤j/\PS C w1 j c1 0 0/\CE C B ba l w1/\Jd B l w1 nm vs rs/\Fr B [C.rb,l] w w1)
  (fun w2=>∃(vs:List bQ) (rs:List (List (St 6))) (c1 j:Nat),y=(if tx C.L j=jM then .ok (vs,rs,j+1) else .error (3,pl C.L j))/\PS C w2 j c1 0 0/\CE C B ba l w2/\Jd B l w2 nm vs rs/\Fr B [C.rb,l] w w2) C.L.length ?_ ?_ ?_ ?_
 ·intro hn e w' ht
  rw[u,if_neg hn]
  exact ht.x (Fr.refl _ _ _) Y.hB (by simp)
 ·intro ho w1 n k
  exact ⟨[],[],c,i+1,by rw[u,if_pos ho],by omega,by simp,by simp,n,I Y k,J hU k,k.x Y.hB⟩
 ·rintro g w1 ⟨vs,rs,c1,j,s,hg,ag,ah,n,O,aa,k⟩
  obtain ⟨g',rfl⟩:∃g',g=g'+1:=⟨g-1,by have:=n.lt;omega⟩
  refine (Gr n O aa ag ah).mono ?_
  rintro e w2 h2
  rcases h2.cases with ⟨f,D,ht⟩|⟨o,v,D,rfl,hv,ab⟩
  ·refine .inr (.inr ?_)
   obtain ⟨q,rfl,hq⟩:=ht
   refine ⟨_,rfl,?_⟩
   rw[s,Sg D.out]
   exact iV.up ⟨q,rfl,hq⟩ k
  ·cases o with
   | none=>
    obtain ⟨rfl,Q,X,U⟩:=hv
    exact .inr (.inl ⟨rfl,vs,rs,c1,j,by rw[s,Mh D.out],Q,X,U,k.trans ab⟩)
   | some x=>
    obtain ⟨aj,ad,c2,j2⟩:=x
    obtain ⟨rfl,ak,ae,ai,Q,X,U⟩:=hv
    exact .inl ⟨rfl,g',by omega,aj,ad,c2,j2,by rw[s,Mg D.out],by omega,ae,ai,Q,X,U,k.trans ab⟩
 ·rintro w2 ⟨vs,rs,c1,j,s,n,O,aa,k⟩
  refine ⟨j,c1,n,fun hn e w3 ht=>?_,fun ho w3 af Z=>?_⟩
  ·rw[s,if_neg hn]
   exact ht.x k (aH5 Y.hB k.size) (by simp)
  ·rw[s,if_pos ho]
   exact ⟨_,rfl,⟨rfl,⟨c1,af⟩,I O Z,J aa Z⟩,k.trans (Z.x (aH5 Y.hB k.size))⟩
theorem Tryz.sizeChart:(Tryz.prog.info? 47).map (·.size)=some 3:=by kernel_rfl
theorem O9 {W:World}{g:Nat}{fc:Array Value}(hsz:fc.size=3) (hg:W.heap[g]?=some (.cells fc 47 (0,0))):(loadVar 47 ⟨g,0,none⟩).run Tryz.prog W=.ok (.agg fc) W:=
 run_loadVar_row (P:=Tryz.prog) W g 47 47 fc (0,0) _ hg Tryz.underlying47 rfl (by rw[hsz];exact Tryz.sizeChart)
theorem mY (c:Array Value) (W:World) (g:Nat) (h:Array Value) (hsz:h.size=3) (k:c.getD 2 undef=.pointer (some ⟨g,0,none⟩)) (l:W.heap[g]?=some (.cells h 47 (0,0))) :
    (results Tryz.f65 c).run Tryz.prog W=.ok (.agg h) W:=by
 have j:c[2]?.getD undef=.pointer (some ⟨g,0,none⟩):=by simpa using k
 simp[results,Tryz.results65,j,asAddr,O9 hsz l]
def gQ (A:Nat->Prop) (w:World) (c:fZ) (v:Value):Prop:=∃a n m a' n' m',v=.agg #[sv c.name,.slice a n m,.slice a' n' m']/\mJ A w c.vars (.slice a n m)/\gP A w (aM A w 6) c.regions (.slice a' n' m')
theorem CU.done {B u:Nat}{w:World}{nm:bE}{vs:List bQ}{rs:List (List (St 6))}{v r:Value}{xv c:List Value}(h:CU B u w nm vs rs v r xv c):mJ (Ge B) w vs v/\gP (Ge B) w (aM (Ge B) w 6) rs r:=by
 have l:bB (sH B [iM vs v xv,dW 6 rs r c]) (Ge B) w w:=fun b hb _=>⟨hb.1,rfl⟩
 have o:=h.good.own
 have k:=h.good.has
 have j:∀x∈[iM vs v xv,dW 6 rs r c],wU (Ge B) w x.t x.sz x.v x.n x.xs:=fun x hx=>⟨qN (o x hx),fun g s=>((o x hx).lt g s).1⟩
 exact ⟨⟨xv,j (iM vs v xv) (by simp),k (iM vs v xv) (by simp)⟩,⟨c,j (dW 6 rs r c) (by simp),Nl l _ _ _ _ (k (dW 6 rs r c) (by simp))⟩⟩
theorem xC {L:List Lx.fQ}{s:bE}{f:F}(j:tx L 0=Q6) (c:nm L 1=.ok s) (h:(if tx L 2=fF then kM L L.length [] [] 0 3 else .error (3,pl L 2))=.error f):dJ L=.error f:=by
 rw[dJ,if_pos j,c]
 simp only
 by_cases ho:tx L 2=fF
 ·rw[if_pos ho] at h ⊢;rw[h]
 ·rw[if_neg ho] at h ⊢;injection h with h;subst h;rfl
theorem zH {L:List Lx.fQ}{s:bE}{vs:List bQ}{rs:List (List (St 6))}{i:Nat}(j:tx L 0=Q6) (c:nm L 1=.ok s) (h:(if tx L 2=fF then kM L L.length [] [] 0 3 else .error (3,pl L 2))=.ok (vs,rs,i)):dJ L=if kd L i=4 then .ok ⟨s,vs,rs⟩ else .error (3,pl L i):=by
 rw[dJ,if_pos j,c]
 simp only
 by_cases ho:tx L 2=fF
 ·rw[if_pos ho] at h ⊢;rw[h]
 ·rw[if_neg ho] at h;exact absurd h (by simp)
abbrev ZC:Array Value:=#[.string ⟨#[]⟩,.slice none 0 0,.slice none 0 0]
theorem H8 {C:dV}{w:World}(h:PS C w 0 0 0 0):Calls Tryz.prog 65 #[.pointer (some ⟨C.rb,0,none⟩)] w (vU C (fun c v w'=>gQ (Ge w.heap.size) w' c v) w (dJ C.L)):=by
 have hC:=h.lts.1
 have bk:∀(fn:Fn) (first cap:Array Value) (w:World),(Instr.makeFunc fn first cap).run Tryz.prog w=.ok (.func fn first cap) w:=fun _ _ _ _=>rfl
 obtain ⟨an,az⟩:=h.alloc (.cells #[.pointer (some ⟨C.rb,0,none⟩)] 168)
 obtain ⟨ag,ai⟩:=an.alloc (.cells ZC 47)
 have y:=az.up ai
 have ap:((w.alloc (.cells #[.pointer (some ⟨C.rb,0,none⟩)] 168)).alloc (.cells ZC 47)).heap.size=w.heap.size+2:=by simp
 have x0:((w.alloc (.cells #[.pointer (some ⟨C.rb,0,none⟩)] 168)).alloc (.cells ZC 47)).cell? ⟨w.heap.size,0,none⟩=some (.pointer (some ⟨C.rb,0,none⟩)):=by simp
 have r0:((w.alloc (.cells #[.pointer (some ⟨C.rb,0,none⟩)] 168)).alloc (.cells ZC 47)).heap[w.heap.size+1]?=some (.cells ZC 47 (0,0)):=by
  have:=heap_alloc_new (w.alloc (.cells #[.pointer (some ⟨C.rb,0,none⟩)] 168)) (.cells ZC 47)
  simpa using this
 go_enter Tryz.func65,Tryz.ntmps65
 go_upto_region 1 with fail
 generalize ((w.alloc (.cells #[.pointer (some ⟨C.rb,0,none⟩)] 168)).alloc (.cells ZC 47))=W0 at ag ai y ap x0 r0 ⊢
 have D:Hid (∀(W W':World),W.cell? ⟨w.heap.size,0,none⟩=some (.pointer (some ⟨C.rb,0,none⟩))->w.heap.size<W.heap.size->Fr W.heap.size [C.rb] W W'->W'.cell? ⟨w.heap.size,0,none⟩=some (.pointer (some ⟨C.rb,0,none⟩))):=fun W W' h1 h2 hf=>by rw[hf.cell (p:=⟨w.heap.size,0,none⟩) h2 (by simp;omega)];exact h1
 go_wp2_with (first
  | (go_at_call 101;refine (cD ag ⟨#[99,104,97,114,116]⟩ Q6 rfl (by decide)).mono ?_;rintro e w1 h1;rcases h1.cases with ⟨f,l,q,rfl,Q⟩|⟨_,v1,l,rfl,⟨rfl,ay⟩,s⟩;(· exact ⟨rfl,by rw[dJ,if_neg (aV l).1,<-(aV l).2];exact aR.up y ⟨q,rfl,Q⟩⟩);have x1:=D.out _ _ x0 (by omega) s;have bm:=s.size;have r1:=s.stays r0 (by omega))
  | (go_at_call 102;refine (eZ ay).mono ?_;rintro e w2 h2;rcases h2.cases with ⟨f,J,q,rfl,Q⟩|⟨r,v2,J,rfl,⟨rfl,ax⟩,u⟩;(· exact ⟨rfl,by rw[dJ,if_pos (bJ l),J.out];exact aR.up (y.up s) ⟨q,rfl,Q⟩⟩);rw[sv];have x2:=D.out _ _ x1 (by omega) u;have bi:=u.size;have r2:=u.stays r1 (by omega);obtain ⟨ba,ac⟩:=ax.alloc (.cells #[.string ⟨r.toArray⟩,.slice none 0 0,.slice none 0 0] 47);have x3:=D.out _ _ x2 (by omega) ac;have r3:=ac.stays r2 (by omega);have b3:=heap_alloc_new w2 (.cells #[.string ⟨r.toArray⟩,.slice none 0 0,.slice none 0 0] 47);have ab:=((y.up s).up u).up ac;have ao:CE C (w2.heap.size+1) w.heap.size w2.heap.size (w2.alloc (.cells #[.string ⟨r.toArray⟩,.slice none 0 0,.slice none 0 0] 47)):=⟨x3,by omega,by omega,hC,by omega,by omega,by omega,aB b3⟩;have bb:Jd (w2.heap.size+1) w2.heap.size (w2.alloc (.cells #[.string ⟨r.toArray⟩,.slice none 0 0,.slice none 0 0] 47)) r [] []:=⟨_,_,[],[],b3,⟨by intro x hx;simp only[aO6,List.not_mem_nil,or_false] at hx;rcases hx with rfl|rfl<;>exact aX2 _ _ _ _,by simp[iM,dW,Value.ownBlock],by intro x hx;simp only[aO6,List.not_mem_nil,or_false] at hx;rcases hx with rfl|rfl<;>rfl⟩⟩;have aw:=Cp ba ao bb;have be:=ab.size;have am:Hid (∀f e w5,iV (w2.heap.size+1) [C.rb,w2.heap.size] (w2.alloc (.cells #[.string ⟨r.toArray⟩,.slice none 0 0,.slice none 0 0] 47)) f e w5->aR C w f e w5):=(fun f e w5 ⟨q,h1,h2,h3,h4⟩=>⟨q,h1,h2,aH5 be h3,ab.trans (h4.mono (by omega) (by intro x hx U;simp at hx ⊢;omega))⟩))
  | (go_at_call 103;refine aw.mono ?_;rintro e w5 h5;rcases h5.cases with ⟨f,Y,q,rfl,Q⟩|⟨⟨k,j,j5⟩,v5,Y,rfl,⟨rfl,⟨c5,I⟩,ar,af,r5,al,ak,ae⟩,O⟩;(· exact ⟨rfl,by rw[xC (bJ l) J.out Y.out];exact am.out _ _ _ ⟨q,rfl,Q⟩⟩);have x5:=ar.a))
 have aj:Hid _:=zH (bJ l) J.out Y.out
 have ad:Fr w.heap.size [C.rb] w w5:=ab.trans (O.mono (by omega) (by intro x hx U;simp at hx ⊢;omega))
 have aa:w5.heap[w.heap.size+1]?=some (.cells ZC 47 (0,0)):=by rw[O.block (w.heap.size+1) (by omega) (by simp;omega)];exact r3
 obtain ⟨q0,q1,-⟩:=I.cells
 obtain ⟨t0,-,-⟩:=I.now
 have bf:(0:Int)≤(j5:Int):=Int.natCast_nonneg _
 have bh:(j5:Int)<(C.L.length:Int):=by have:=I.lt;omega
 have hdr:∀n,Fr w5.heap.size [] w5 (w5.drewN n):=fun n=>(Fr.refl _ _ _).drewN n
 by_cases hk:kd C.L j5=4
 ·have av:(((kd C.L j5:Nat):Int) != 4)=false:=by simp;omega
  have HE:Hid (dJ C.L=.ok ⟨r,k,j⟩):=by rw[Hid,aj.out,if_pos hk]
  clear hk
  have o1:w5.ownsRow (w2.heap.size+1) 126 3 af k.length al:=ae.good.own (iM k af al) (by simp)
  have o2:w5.ownsRow (w2.heap.size+1) 174 1 r5 j.length ak:=ae.good.own (dW 6 j r5 ak) (by simp)
  obtain ⟨a1,m1,rfl⟩:=aP o1
  obtain ⟨a2,m2,rfl⟩:=aP o2
  go_quiet (fail)
  have Z:=ae.carry (X:=[]) (by simp) (by simp) (hdr nq)
  have ah:Fr w.heap.size [C.rb] w (w5.drewN nq):=ad.up (hdr nq).wide
  have rq:(w5.drewN nq).heap[w.heap.size+1]?=some (.cells ZC 47 (0,0)):=by rw[(hdr nq).block _ (aB aa) (by simp)];exact aa
  have bj:=O.size
  generalize w5.drewN nq=w6 at Z ah rq ⊢
  go_wp2_with (first
   | (refine bT rfl 47 (.tmp 3) rfl ⟨w2.heap.size,0,none⟩ rfl (.agg #[sv r,.slice a1 k.length m1,.slice a2 j.length m2]) (O9 rfl Z.at_) ?_)
   | (refine wpList_store_row rfl 47 (.tmp 2) (.tmp 26) rfl (w.heap.size+1) #[sv r,.slice a1 k.length m1,.slice a2 j.length m2] rfl rfl 47 _ rq Tryz.sizeChart rfl (by simp[Value.oneCell',sv]) ?_))
  refine aX5 (mY _ _ (w.heap.size+1) #[sv r,.slice a1 k.length m1,.slice a2 j.length m2] rfl rfl (setRow_heap _ _ _ _ _ _ rq)) rfl ?_
  rw[HE.out]
  obtain ⟨d1,d2⟩:=Z.done
  have bc:=sC w6 (w.heap.size+1) #[sv r,.slice a1 k.length m1,.slice a2 j.length m2]
  have kp:bB (Ge (w2.heap.size+1)) (Ge w.heap.size) w6 (w6.setRow (w.heap.size+1) #[sv r,.slice a1 k.length m1,.slice a2 j.length m2]):=fun b hb U=>⟨by simp[Ge] at *;omega,bc.block b U (by simp[Ge] at *;omega)⟩
  exact ⟨_,rfl,⟨a1,_,m1,a2,_,m2,rfl,d1.carry kp,d2.carry kp (aM.carry kp 6)⟩,ah.row (.inl (by omega)) _⟩
 ·have av:(((kd C.L j5:Nat):Int) != 4)=true:=by simp;omega
  have HE:Hid (dJ C.L=.error (3,pl C.L j5)):=by rw[Hid,aj.out,if_neg hk]
  clear hk
  go_quiet (fail)
  have au:=I.same (hdr nq)
  have xq:=D.out _ _ x5 (by have:=ad.size;have:=O.size;have:=aB aa;omega) (hdr nq).wide
  go_wp2_with (go_at_call 111;refine (gX au 3).mono ?_;rintro e w6 ⟨q,rfl,Q⟩;exact ⟨rfl,by rw[HE.out];exact aR.up (ad.up (hdr nq).wide) ⟨q,rfl,Q⟩⟩)
end
end Go.Proofs.YthieaobjdpfcoaaGreatDoor
