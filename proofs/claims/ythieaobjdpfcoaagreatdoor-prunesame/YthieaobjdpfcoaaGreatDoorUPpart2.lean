import Derived.Test.YthieaobjdpfcoaaGreatDoorUPpart
set_option maxRecDepth 100000
set_option maxHeartbeats 8000000
namespace Go.Proofs.YthieaobjdpfcoaaGreatDoor
open Go.RowKit Px
theorem En {C:dV}{k B sb ins i c:Nat}{w:World}{s:cF (St k)}{Z:Nat->Nat->Except F (List (St k)×Nat×Nat)}(h:PS C w i c ins 0) (hE:Db C B sb w) (hS:X9 k B sb w s) (hb:Bd i s) (hw:tx C.L i=fW):Calls Tryz.prog 196 #[.pointer (some ⟨C.rb,0,none⟩),.pointer (some ⟨sb,0,none⟩)] w (lS B [C.rb,sb] (mU C k B sb ins i c s) w (Px.eF C.L (St k) Z s c i)):=by
 obtain ⟨i0,hi,bj,bz,bn⟩:=aX6 Tryz.info297
 obtain ⟨e,d,l,p,y,r,xe,xd,xl,xy,xr,hS⟩:=hS
 have cf:=h.wf.len
 have cj:=h.lt
 have ch:=hb.e
 have ce:=hb.d
 have cg:=hb.l
 have cn:=hb.y
 have cm:=hb.r
 obtain ⟨am,ap,av,aj⟩:=hE
 have D:sb∉[C.rb]:=by simp;omega
 have hX:∀x∈[C.rb],x<B:=by simp;omega
 obtain ⟨tb,ar⟩:∃tb:ByteArray,Hid (bs tb=tx C.L i):=⟨⟨(tx C.L i).toArray⟩,rfl⟩
 have bv:w.ownsRow B 297 2 e s.enter.length xe:=hS.good.own (cE s.enter e xe) (by simp[aZ])
 obtain ⟨ao,cap,rfl⟩:=aP bv
 have HL:Hid (cZ (bs tb)=none):=by rw[Hid,ar.out,hw];decide
 have HY:Hid _:=hw
 have br:Hid (tx C.L i≠bs ⟨#[114,101,103,105,111,110]⟩):=by rw[Hid,hw];decide
 have HE:∀f,Hid (sets C.L C.L.length [] (i+1)=.error f)->Hid (Px.eF C.L (St k) Z s c i=.error f):=fun f hr=>by rw[Hid,Px.eF,hw,show cZ fW=none from by decide];simp only;rw[if_neg (show fW≠dL by decide),if_pos trivial,hr.out]
 have bq:∀l j f,Hid (sets C.L C.L.length [] (i+1)=.ok (l,j))->pD C.L j=.error f->Hid (Px.eF C.L (St k) Z s c i=.error f):=fun l j f hr hs=>by rw[Hid,Px.eF,hw,show cZ fW=none from by decide];simp only;rw[if_neg (show fW≠dL by decide),if_pos trivial,hr.out];simp only;rw[hs]
 have HO:∀l j m,Hid (sets C.L C.L.length [] (i+1)=.ok (l,j))->pD C.L j=.ok m->Hid (Px.eF C.L (St k) Z s c i=.ok (some ({ s with enter:=s.enter++l },c,m))):=fun l j m hr hs=>by rw[Hid,Px.eF,hw,show cZ fW=none from by decide];simp only;rw[if_neg (show fW≠dL by decide),if_pos trivial,hr.out];simp only;rw[hs]
 have bi:=h.wf.pos
 clear hw
 have T0:Hid True:=trivial
 have T1:Hid True:=trivial
 have T2:Hid True:=trivial
 go_enter Tryz.func196,Tryz.ntmps196
 go_wp2_with (first
  | (go_at_call 106;refine (eI h tb ar).mono ?_;rintro O w1 ⟨rfl,bb,ax⟩)
  | (go_at_call 223;refine (jL bb tb _ HL).mono ?_;rintro O w2 ⟨rfl,bh⟩;obtain rfl:=bh.symm;rw[rL])
  | (go_at_call 109;clear T0;refine (cN bb ⟨#[114,101,103,105,111,110]⟩ br.out).mono ?_;rintro O w2 ⟨rfl,bp,al⟩)
  | (go_at_call 109;clear T1;refine (dM bp ⟨#[101,110,116,114,121]⟩ HY.out (by decide)).mono ?_;rintro O w3 ⟨rfl,bu,bc⟩))
 have ad:=((hS.carry (X:=[]) (by simp) (by simp) ax).carry (X:=[]) (by simp) (by simp) al).carry hX D bc
 have af:=(((ax.wide (X:=[C.rb])).up al.wide).up bc)
 have Y:=aH5 aj af.size
 have hdr:Fr w3.heap.size [] w3 w3.drew:=(Fr.refl _ _ _).drew
 have az:=bu.same hdr
 obtain ⟨y2,-⟩:=lU ad.at_ 3 (Value.slice ao s.enter.length cap) rfl
 go_region_law
  (first
   | (refine step_append_lies _ (by rfl) _ _ _ (by rfl) B 297 i0 _ 2 24 Tryz.underlying219 hi bj bz bn rfl (by omega) (Value.slice ao s.enter.length cap) s.enter.length xe (by rfl) (u.good.own (cE s.enter _ xe) (by simp[aZ]))
         ⟨g4,0,none⟩ l4.length ba bw (by rfl) J.own.1 (J.own.cells (g:=g4) rfl) (pM _ _ J.rows)
         U (by unfold maxLen;omega) (by omega) ac ah.heap.size rfl ?_
      intro gg aa ae ag n bk cb
      have bf:=SU.grow_enter (m:=l4) u ap Y ad.lts (J.rows.map (mT.carry nF)) (by rw[aH7];exact ag) n (by rcases bk with O|O;exact .inl O.symm;exact .inr (by rw[O];simp[Value.ownBlock]))
      have ak:Fr B [C.rb,sb] w ae:=(((af.x aj).trans ((hdr.wide.up Q).x Y))).grown n ac (fun g hg=>.inl ((u.good.own (cE s.enter _ xe) (by simp[aZ])).lt g hg).1)
      have be:PS C ae j4 c ins 0:=ab.low am ((Fr.refl B [] ah).grown n ac (fun g hg=>.inl ((u.good.own (cE s.enter _ xe) (by simp[aZ])).lt g hg).1))
      have bm:ae.heap[sb]?=some (.cells (rA s.name s.first s.last (Value.slice ao s.enter.length cap) d l p y r) 223 (0,0)):=by
       rw[n.block sb ca (fun O=>by have:=((u.good.own (cE s.enter (Value.slice ao s.enter.length cap) xe) (by simp[aZ])).lt sb O.symm).1;omega)];exact u.at_
      obtain ⟨y5,ck⟩:=lU bm 3 (Value.slice ao s.enter.length cap) rfl
      have au:=be.put av 3 (.slice (some ⟨gg,0,none⟩) (s.enter.length+l4.length) aa)
      have ay:=ak.setCell (p:=⟨sb,3,none⟩) (.inr (by simp)) (.slice (some ⟨gg,0,none⟩) (s.enter.length+l4.length) aa))
   | (go_simp
      go_at_call 225
      refine (mW az).mono ?_
      rintro O ah h4
      rcases h4.cases with ⟨f,I,q,rfl,hq⟩|⟨⟨l4,j4⟩,v4,I,rfl,⟨⟨bw,J⟩,cd,ab⟩,Q⟩
      ·exact ⟨rfl,by rw[(HE _ I).out];exact aR.x ⟨q,rfl,hq⟩ ((af.x aj).drew) Y (by simp)⟩
      have U:=yD bi I.out
      have aw:=(lI _ _ _ _ _ I.out).1
      simp only[aW4,aW8] at aw
      obtain ⟨g4,ba,rfl⟩:=J.some U
      have u:=ad.carry hX D (hdr.wide.up Q)
      obtain ⟨y4,ci⟩:=lU u.at_ 3 (Value.slice ao s.enter.length cap) rfl
      have ca:=aB u.at_
      have cc:=ab.lt
      have ac:B≤ah.heap.size:=aH5 Y (hdr.wide.up Q).size))
 all_goals
  go_wp2_with (go_at_call 101;refine (cD au ⟨#[59]⟩ fE rfl (by decide)).mono ?_;rintro O w7 h7;rcases h7.cases with ⟨f,ai,q,rfl,hq⟩|⟨_,v7,ai,rfl,⟨rfl,bo⟩,an⟩;(· exact ⟨rfl,by rw[(bq _ _ _ I (sY ai)).out];exact aR.x ⟨q,rfl,hq⟩ ay (by simp;have:=ak.size;omega) (by simp)⟩))
  go_ret
  rw[(HO _ _ _ I (qL ai)).out]
  exact ⟨_,rfl,⟨rfl,by omega,⟨by simp;omega,by (show s.during.length≤j4+1);omega,by (show s.leave.length≤j4+1);omega,by (show s.ways.length≤j4+1);omega,by (show s.regions.length≤j4+1);omega⟩,bo,⟨_,_,_,_,_,_,_,_,_,_,_,bf.carry hX D an⟩⟩,ay.trans (an.x (by simp;have:=ak.size;omega))⟩
theorem Ag {C:dV}{k B sb ins i c:Nat}{w:World}{s:cF (St k)}{Z:Nat->Nat->Except F (List (St k)×Nat×Nat)}(h:PS C w i c ins 0) (hE:Db C B sb w) (hS:X9 k B sb w s) (hb:Bd i s) (hw:tx C.L i=eM):Calls Tryz.prog 196 #[.pointer (some ⟨C.rb,0,none⟩),.pointer (some ⟨sb,0,none⟩)] w (lS B [C.rb,sb] (mU C k B sb ins i c s) w (Px.eF C.L (St k) Z s c i)):=by
 obtain ⟨i0,hi,bk,cb,bo⟩:=aX6 Tryz.info297
 obtain ⟨e,d,l,p,y,r,xe,xd,xl,xy,xr,hS⟩:=hS
 have ci:=h.wf.len
 have cn:=h.lt
 have ck:=hb.e
 have ch:=hb.d
 have cj:=hb.l
 have cq:=hb.y
 have cp:=hb.r
 obtain ⟨am,ar,aw,aj⟩:=hE
 have D:sb∉[C.rb]:=by simp;omega
 have hX:∀x∈[C.rb],x<B:=by simp;omega
 obtain ⟨tb,au⟩:∃tb:ByteArray,Hid (bs tb=tx C.L i):=⟨⟨(tx C.L i).toArray⟩,rfl⟩
 have bw:w.ownsRow B 297 2 d s.during.length xd:=hS.good.own (cE s.during d xd) (by simp[aZ])
 obtain ⟨ao,cap,rfl⟩:=aP bw
 have HL:Hid (cZ (bs tb)=none):=by rw[Hid,au.out,hw];decide
 have HY:Hid _:=hw
 have bu:Hid (tx C.L i≠bs ⟨#[114,101,103,105,111,110]⟩):=by rw[Hid,hw];decide
 have bz:Hid (tx C.L i≠bs ⟨#[101,110,116,114,121]⟩):=by rw[Hid,hw];decide
 have HE:∀f,Hid (sets C.L C.L.length [] (i+1)=.error f)->Hid (Px.eF C.L (St k) Z s c i=.error f):=fun f hr=>by rw[Hid,Px.eF,hw,show cZ eM=none from by decide];simp only;rw[if_neg (show eM≠dL by decide),if_neg (show eM≠fW by decide),if_pos trivial,hr.out]
 have br:∀l j f,Hid (sets C.L C.L.length [] (i+1)=.ok (l,j))->pD C.L j=.error f->Hid (Px.eF C.L (St k) Z s c i=.error f):=fun l j f hr hs=>by rw[Hid,Px.eF,hw,show cZ eM=none from by decide];simp only;rw[if_neg (show eM≠dL by decide),if_neg (show eM≠fW by decide),if_pos trivial,hr.out];simp only;rw[hs]
 have HO:∀l j m,Hid (sets C.L C.L.length [] (i+1)=.ok (l,j))->pD C.L j=.ok m->Hid (Px.eF C.L (St k) Z s c i=.ok (some ({ s with during:=s.during++l },c,m))):=fun l j m hr hs=>by rw[Hid,Px.eF,hw,show cZ eM=none from by decide];simp only;rw[if_neg (show eM≠dL by decide),if_neg (show eM≠fW by decide),if_pos trivial,hr.out];simp only;rw[hs]
 have bj:=h.wf.pos
 clear hw
 have T0:Hid True:=trivial
 have T1:Hid True:=trivial
 have T2:Hid True:=trivial
 have T3:Hid True:=trivial
 go_enter Tryz.func196,Tryz.ntmps196
 go_wp2_with (first
  | (go_at_call 106;refine (eI h tb au).mono ?_;rintro J w1 ⟨rfl,bc,ay⟩)
  | (go_at_call 223;refine (jL bc tb _ HL).mono ?_;rintro J w2 ⟨rfl,bi⟩;obtain rfl:=bi.symm;rw[rL])
  | (go_at_call 109;clear T0;refine (cN bc ⟨#[114,101,103,105,111,110]⟩ bu.out).mono ?_;rintro J w2 ⟨rfl,bq,al⟩)
  | (go_at_call 109;clear T1;refine (cN bq ⟨#[101,110,116,114,121]⟩ bz.out).mono ?_;rintro J w3 ⟨rfl,bv,be⟩)
  | (go_at_call 109;clear T2;refine (dM bv ⟨#[100,117,114,105,110,103]⟩ HY.out (by decide)).mono ?_;rintro J w4 ⟨rfl,cd,an⟩))
 have ad:=(((hS.carry (X:=[]) (by simp) (by simp) ay).carry (X:=[]) (by simp) (by simp) al).carry (X:=[]) (by simp) (by simp) be).carry hX D an
 have af:=((((ay.wide (X:=[C.rb])).up al.wide).up be.wide).up an)
 have Y:=aH5 aj af.size
 have hdr:Fr w4.heap.size [] w4 w4.drew:=(Fr.refl _ _ _).drew
 have ba:=cd.same hdr
 obtain ⟨y2,-⟩:=lU ad.at_ 4 (Value.slice ao s.during.length cap) rfl
 go_region_law
  (first
   | (refine step_append_lies _ (by rfl) _ _ _ (by rfl) B 297 i0 _ 2 24 Tryz.underlying219 hi bk cb bo rfl (by omega) (Value.slice ao s.during.length cap) s.during.length xd (by rfl) (u.good.own (cE s.during _ xd) (by simp[aZ]))
         ⟨g4,0,none⟩ l4.length bb ca (by rfl) O.own.1 (O.own.cells (g:=g4) rfl) (pM _ _ O.rows)
         U (by unfold maxLen;omega) (by omega) ac ah.heap.size rfl ?_
      intro gg aa ae ag n bm ce
      have bh:=SU.grow_during (m:=l4) u ar Y ad.lts (O.rows.map (mT.carry nF)) (by rw[aH7];exact ag) n (by rcases bm with J|J;exact .inl J.symm;exact .inr (by rw[J];simp[Value.ownBlock]))
      have ak:Fr B [C.rb,sb] w ae:=(((af.x aj).trans ((hdr.wide.up Q).x Y))).grown n ac (fun g hg=>.inl ((u.good.own (cE s.during _ xd) (by simp[aZ])).lt g hg).1)
      have bf:PS C ae j4 c ins 0:=ab.low am ((Fr.refl B [] ah).grown n ac (fun g hg=>.inl ((u.good.own (cE s.during _ xd) (by simp[aZ])).lt g hg).1))
      have bn:ae.heap[sb]?=some (.cells (rA s.name s.first s.last e (Value.slice ao s.during.length cap) l p y r) 223 (0,0)):=by
       rw[n.block sb cc (fun J=>by have:=((u.good.own (cE s.during (Value.slice ao s.during.length cap) xd) (by simp[aZ])).lt sb J.symm).1;omega)];exact u.at_
      obtain ⟨y5,co⟩:=lU bn 4 (Value.slice ao s.during.length cap) rfl
      have av:=bf.put aw 4 (.slice (some ⟨gg,0,none⟩) (s.during.length+l4.length) aa)
      have az:=ak.setCell (p:=⟨sb,4,none⟩) (.inr (by simp)) (.slice (some ⟨gg,0,none⟩) (s.during.length+l4.length) aa))
   | (go_simp
      go_at_call 225
      refine (mW ba).mono ?_
      rintro J ah h4
      rcases h4.cases with ⟨f,I,q,rfl,hq⟩|⟨⟨l4,j4⟩,v4,I,rfl,⟨⟨ca,O⟩,cg,ab⟩,Q⟩
      ·exact ⟨rfl,by rw[(HE _ I).out];exact aR.x ⟨q,rfl,hq⟩ ((af.x aj).drew) Y (by simp)⟩
      have U:=yD bj I.out
      have ax:=(lI _ _ _ _ _ I.out).1
      simp only[aW4,aW8] at ax
      obtain ⟨g4,bb,rfl⟩:=O.some U
      have u:=ad.carry hX D (hdr.wide.up Q)
      obtain ⟨y4,cm⟩:=lU u.at_ 4 (Value.slice ao s.during.length cap) rfl
      have cc:=aB u.at_
      have cf:=ab.lt
      have ac:B≤ah.heap.size:=aH5 Y (hdr.wide.up Q).size))
 all_goals
  go_wp2_with (go_at_call 101;refine (cD av ⟨#[59]⟩ fE rfl (by decide)).mono ?_;rintro J w7 h7;rcases h7.cases with ⟨f,ai,q,rfl,hq⟩|⟨_,v7,ai,rfl,⟨rfl,bp⟩,ap⟩;(· exact ⟨rfl,by rw[(br _ _ _ I (sY ai)).out];exact aR.x ⟨q,rfl,hq⟩ az (by simp;have:=ak.size;omega) (by simp)⟩))
  go_ret
  rw[(HO _ _ _ I (qL ai)).out]
  exact ⟨_,rfl,⟨rfl,by omega,⟨by (show s.enter.length≤j4+1);omega,by simp;omega,by (show s.leave.length≤j4+1);omega,by (show s.ways.length≤j4+1);omega,by (show s.regions.length≤j4+1);omega⟩,bp,⟨_,_,_,_,_,_,_,_,_,_,_,bh.carry hX D ap⟩⟩,az.trans (ap.x (by simp;have:=ak.size;omega))⟩
theorem El {C:dV}{k B sb ins i c:Nat}{w:World}{s:cF (St k)}{aa:Nat->Nat->Except F (List (St k)×Nat×Nat)}(h:PS C w i c ins 0) (hE:Db C B sb w) (hS:X9 k B sb w s) (hb:Bd i s) (Y:tx C.L i=jN):Calls Tryz.prog 196 #[.pointer (some ⟨C.rb,0,none⟩),.pointer (some ⟨sb,0,none⟩)] w (lS B [C.rb,sb] (mU C k B sb ins i c s) w (Px.eF C.L (St k) aa s c i)):=by
 obtain ⟨i0,hi,bo,cf,bu⟩:=aX6 Tryz.info297
 obtain ⟨e,d,l,p,y,r,xe,xd,xl,xy,xr,hS⟩:=hS
 have cn:=h.wf.len
 have cr:=h.lt
 have cp:=hb.e
 have cm:=hb.d
 have co:=hb.l
 have cv:=hb.y
 have cu:=hb.r
 obtain ⟨an,au,ax,ak⟩:=hE
 have D:sb∉[C.rb]:=by simp;omega
 have hX:∀x∈[C.rb],x<B:=by simp;omega
 obtain ⟨tb,av⟩:∃tb:ByteArray,Hid (bs tb=tx C.L i):=⟨⟨(tx C.L i).toArray⟩,rfl⟩
 have cc:w.ownsRow B 297 2 l s.leave.length xl:=hS.good.own (cE s.leave l xl) (by simp[aZ])
 obtain ⟨ao,cap,rfl⟩:=aP cc
 have HL:Hid (cZ (bs tb)=none):=by rw[Hid,av.out,Y];decide
 have HY:Hid _:=Y
 have ca:Hid (tx C.L i≠bs ⟨#[114,101,103,105,111,110]⟩):=by rw[Hid,Y];decide
 have cd:Hid (tx C.L i≠bs ⟨#[101,110,116,114,121]⟩):=by rw[Hid,Y];decide
 have bk:Hid (tx C.L i≠bs ⟨#[100,117,114,105,110,103]⟩):=by rw[Hid,Y];decide
 have HE:∀f,Hid (sets C.L C.L.length [] (i+1)=.error f)->Hid (Px.eF C.L (St k) aa s c i=.error f):=fun f hr=>by rw[Hid,Px.eF,Y,show cZ jN=none from by decide];simp only;rw[if_neg (show jN≠dL by decide),if_neg (show jN≠fW by decide),if_neg (show jN≠eM by decide),if_pos trivial,hr.out]
 have bz:∀l j f,Hid (sets C.L C.L.length [] (i+1)=.ok (l,j))->pD C.L j=.error f->Hid (Px.eF C.L (St k) aa s c i=.error f):=fun l j f hr hs=>by rw[Hid,Px.eF,Y,show cZ jN=none from by decide];simp only;rw[if_neg (show jN≠dL by decide),if_neg (show jN≠fW by decide),if_neg (show jN≠eM by decide),if_pos trivial,hr.out];simp only;rw[hs]
 have HO:∀l j m,Hid (sets C.L C.L.length [] (i+1)=.ok (l,j))->pD C.L j=.ok m->Hid (Px.eF C.L (St k) aa s c i=.ok (some ({ s with leave:=s.leave++l },c,m))):=fun l j m hr hs=>by rw[Hid,Px.eF,Y,show cZ jN=none from by decide];simp only;rw[if_neg (show jN≠dL by decide),if_neg (show jN≠fW by decide),if_neg (show jN≠eM by decide),if_pos trivial,hr.out];simp only;rw[hs]
 have bn:=h.wf.pos
 clear Y
 have T0:Hid True:=trivial
 have T1:Hid True:=trivial
 have T2:Hid True:=trivial
 have T3:Hid True:=trivial
 have T4:Hid True:=trivial
 go_enter Tryz.func196,Tryz.ntmps196
 go_wp2_with (first
  | (go_at_call 106;refine (eI h tb av).mono ?_;rintro I w1 ⟨rfl,be,az⟩)
  | (go_at_call 223;refine (jL be tb _ HL).mono ?_;rintro I w2 ⟨rfl,bm⟩;obtain rfl:=bm.symm;rw[rL])
  | (go_at_call 109;clear T0;refine (cN be ⟨#[114,101,103,105,111,110]⟩ ca.out).mono ?_;rintro I w2 ⟨rfl,bw,am⟩)
  | (go_at_call 109;clear T1;refine (cN bw ⟨#[101,110,116,114,121]⟩ cd.out).mono ?_;rintro I w3 ⟨rfl,cb,bh⟩)
  | (go_at_call 109;clear T2;refine (cN cb ⟨#[100,117,114,105,110,103]⟩ bk.out).mono ?_;rintro I w4 ⟨rfl,ch,ap⟩)
  | (go_at_call 109;clear T3;refine (dM ch ⟨#[101,120,105,116]⟩ HY.out (by decide)).mono ?_;rintro I w5 ⟨rfl,br,bf⟩))
 have ae:=((((hS.carry (X:=[]) (by simp) (by simp) az).carry (X:=[]) (by simp) (by simp) am).carry (X:=[]) (by simp) (by simp) bh).carry (X:=[]) (by simp) (by simp) ap).carry hX D bf
 have ag:=(((((az.wide (X:=[C.rb])).up am.wide).up bh.wide).up ap.wide).up bf)
 have Z:=aH5 ak ag.size
 have hdr:Fr w5.heap.size [] w5 w5.drew:=(Fr.refl _ _ _).drew
 have bb:=br.same hdr
 obtain ⟨y2,-⟩:=lU ae.at_ 5 (Value.slice ao s.leave.length cap) rfl
 go_region_law
  (first
   | (refine step_append_lies _ (by rfl) _ _ _ (by rfl) B 297 i0 _ 2 24 Tryz.underlying219 hi bo cf bu rfl (by omega) (Value.slice ao s.leave.length cap) s.leave.length xl (by rfl) (u.good.own (cE s.leave _ xl) (by simp[aZ]))
         ⟨g4,0,none⟩ l4.length bc ce (by rfl) O.own.1 (O.own.cells (g:=g4) rfl) (pM _ _ O.rows)
         U (by unfold maxLen;omega) (by omega) ad ai.heap.size rfl ?_
      intro gg ab af ah n bp ci
      have bj:=SU.grow_leave (m:=l4) u au Z ae.lts (O.rows.map (mT.carry nF)) (by rw[aH7];exact ah) n (by rcases bp with I|I;exact .inl I.symm;exact .inr (by rw[I];simp[Value.ownBlock]))
      have al:Fr B [C.rb,sb] w af:=(((ag.x ak).trans ((hdr.wide.up Q).x Z))).grown n ad (fun g hg=>.inl ((u.good.own (cE s.leave _ xl) (by simp[aZ])).lt g hg).1)
      have bi:PS C af j4 c ins 0:=ac.low an ((Fr.refl B [] ai).grown n ad (fun g hg=>.inl ((u.good.own (cE s.leave _ xl) (by simp[aZ])).lt g hg).1))
      have bq:af.heap[sb]?=some (.cells (rA s.name s.first s.last e d (Value.slice ao s.leave.length cap) p y r) 223 (0,0)):=by
       rw[n.block sb cg (fun I=>by have:=((u.good.own (cE s.leave (Value.slice ao s.leave.length cap) xl) (by simp[aZ])).lt sb I.symm).1;omega)];exact u.at_
      obtain ⟨y5,ct⟩:=lU bq 5 (Value.slice ao s.leave.length cap) rfl
      have aw:=bi.put ax 5 (.slice (some ⟨gg,0,none⟩) (s.leave.length+l4.length) ab)
      have ba:=al.setCell (p:=⟨sb,5,none⟩) (.inr (by simp)) (.slice (some ⟨gg,0,none⟩) (s.leave.length+l4.length) ab))
   | (go_simp
      go_at_call 225
      refine (mW bb).mono ?_
      rintro I ai h4
      rcases h4.cases with ⟨f,J,q,rfl,hq⟩|⟨⟨l4,j4⟩,v4,J,rfl,⟨⟨ce,O⟩,ck,ac⟩,Q⟩
      ·exact ⟨rfl,by rw[(HE _ J).out];exact aR.x ⟨q,rfl,hq⟩ ((ag.x ak).drew) Z (by simp)⟩
      have U:=yD bn J.out
      have ay:=(lI _ _ _ _ _ J.out).1
      simp only[aW4,aW8] at ay
      obtain ⟨g4,bc,rfl⟩:=O.some U
      have u:=ae.carry hX D (hdr.wide.up Q)
      obtain ⟨y4,cq⟩:=lU u.at_ 5 (Value.slice ao s.leave.length cap) rfl
      have cg:=aB u.at_
      have cj:=ac.lt
      have ad:B≤ai.heap.size:=aH5 Z (hdr.wide.up Q).size))
 all_goals
  go_wp2_with (go_at_call 101;refine (cD aw ⟨#[59]⟩ fE rfl (by decide)).mono ?_;rintro I w7 h7;rcases h7.cases with ⟨f,aj,q,rfl,hq⟩|⟨_,v7,aj,rfl,⟨rfl,bv⟩,ar⟩;(· exact ⟨rfl,by rw[(bz _ _ _ J (sY aj)).out];exact aR.x ⟨q,rfl,hq⟩ ba (by simp;have:=al.size;omega) (by simp)⟩))
  go_ret
  rw[(HO _ _ _ J (qL aj)).out]
  exact ⟨_,rfl,⟨rfl,by omega,⟨by (show s.enter.length≤j4+1);omega,by (show s.during.length≤j4+1);omega,by simp;omega,by (show s.ways.length≤j4+1);omega,by (show s.regions.length≤j4+1);omega⟩,bv,⟨_,_,_,_,_,_,_,_,_,_,_,bj.carry hX D ar⟩⟩,ba.trans (ar.x (by simp;have:=al.size;omega))⟩
def Region (C:dV) (k:Nat):Prop:=∀(w:World) (i c ins:Nat),ins+k=6->PS C w i c ins 0->Calls Tryz.prog 110 #[.pointer (some ⟨C.rb,0,none⟩)] w (vU C (fun x v w'=>aM (Ge w.heap.size) w' k x.1 v/\PS C w' x.2.2 x.2.1 ins 0) w (aW C.L k c i))
theorem aM.shape {A:Nat->Prop}{w:World}{k:Nat}{l:List (St k)}{v:Value}(h:aM A w k l v):∃ao n cap,v=.slice ao n cap:=by
 cases k with
 | zero=>exact ⟨none,0,0,h.2⟩
 | succ k=>
  obtain ⟨j,c,_⟩:=h
  obtain ⟨ao,cap,rfl⟩:=aP c.1
  exact ⟨ao,_,cap,rfl⟩
theorem cell_one_new (w:World) (a:Value) (t:TypeId):∀j u,[a][j]?=some u->(w.alloc (.cells #[a] t)).cell? ((⟨w.heap.size,0,none⟩:Addr).add j)=some u:=by
 intro j u c
 match j,c with
 | 0,c=>simp at c;subst c;simp[Addr.add]
 | j+1,c=>simp at c
theorem O3 {C:dV}{k B sb ins i c:Nat}{w:World}{s:cF (St k)}(h:PS C w i c ins 0) (hE:Db C B sb w) (hS:X9 k B sb w s) (hb:Bd i s) (hR:Region C k) (hk:ins+k=6) (ba:∀c i l c' j,aW C.L k c i=.ok (l,c',j)->i<j) (hw:tx C.L i=dL):Calls Tryz.prog 196 #[.pointer (some ⟨C.rb,0,none⟩),.pointer (some ⟨sb,0,none⟩)] w (lS B [C.rb,sb] (mU C k B sb ins i c s) w (Px.eF C.L (St k) (aW C.L k) s c i)):=by
 obtain ⟨i0,hi,bb,bj,bf⟩:=aX6 Tryz.info174
 obtain ⟨e,d,l,p,y,r,xe,xd,xl,xy,xr,hS⟩:=hS
 have bp:=h.wf.len
 have bw:=h.lt
 have bu:=hb.e
 have bo:=hb.d
 have bq:=hb.l
 have cb:=hb.y
 have ca:=hb.r
 obtain ⟨ai,ak,an,af⟩:=hE
 have Q:sb∉[C.rb]:=by simp;omega
 have hX:∀x∈[C.rb],x<B:=by simp;omega
 obtain ⟨tb,al⟩:∃tb:ByteArray,Hid (bs tb=tx C.L i):=⟨⟨(tx C.L i).toArray⟩,rfl⟩
 have bi:w.ownsRow B 174 1 r s.regions.length xr:=hS.good.own (dW k s.regions r xr) (by simp[aZ])
 obtain ⟨ao,cap,rfl⟩:=aP bi
 have HL:Hid (cZ (bs tb)=none):=by rw[Hid,al.out,hw];decide
 have HY:Hid _:=hw
 have HE:∀f,Hid (aW C.L k c (i+1)=.error f)->Hid (Px.eF C.L (St k) (aW C.L k) s c i=.error f):=fun f hr=>by rw[Hid,Px.eF,hw,show cZ dL=none from by decide];simp only;rw[if_pos trivial,hr.out]
 have HO:∀l c' j,Hid (aW C.L k c (i+1)=.ok (l,c',j))->Hid (Px.eF C.L (St k) (aW C.L k) s c i=.ok (some ({ s with regions:=s.regions++[l] },c',j))):=fun l c' j hr=>by rw[Hid,Px.eF,hw,show cZ dL=none from by decide];simp only;rw[if_pos trivial,hr.out]
 clear hw
 have T0:Hid True:=trivial
 have T1:Hid True:=trivial
 go_enter Tryz.func196,Tryz.ntmps196
 go_wp2_with (first
  | (go_at_call 106;refine (eI h tb al).mono ?_;rintro U w1 ⟨rfl,au,ap⟩)
  | (go_at_call 223;refine (jL au tb _ HL).mono ?_;rintro U w2 ⟨rfl,az⟩;obtain rfl:=az.symm;rw[rL])
  | (go_at_call 109;clear T0;refine (dM au ⟨#[114,101,103,105,111,110]⟩ HY.out (by decide)).mono ?_;rintro U w2 ⟨rfl,bh,ah⟩))
 have ab:=(hS.carry (X:=[]) (by simp) (by simp) ap).carry hX Q ah
 have ad:=((ap.wide (X:=[C.rb])).up ah)
 have Z:=aH5 af ad.size
 have hdr:Fr w2.heap.size [] w2 w2.drew:=(Fr.refl _ _ _).drew
 have ar:=bh.same hdr
 obtain ⟨y2,-⟩:=lU ab.at_ 8 (Value.slice ao s.regions.length cap) rfl
 go_region_law
  (first
   | (refine step_append_lies _ (by rfl) _ _ _ (by rfl) B 174 i0 _ 1 24 Tryz.underlying45 hi bb bj bf rfl (by omega) (Value.slice ao s.regions.length cap) s.regions.length xr (by rfl) (I.good.own (dW k s.regions _ xr) (by simp[aZ]))
         ⟨D.heap.size,0,none⟩ 1 1 [.slice ag n4 O] (by rfl) (by rfl) (cell_one_new D _ 174) (by intro u hu;simp at hu;subst hu;rfl)
         (by omega) (by unfold maxLen;omega) (by omega) (by simp;omega) (D.heap.size+1) (by simp) ?_
      intro gg bm ac ae n bc bn
      have ay:=SU.grow_regions (a:=a4) (u:=.slice ag n4 O) I ak Z ab.lts ⟨rfl,aM.carry (bA (X:=[]) (by simp) am) k _ _ aw⟩ (by rw[aH7];exact ae) n (by rcases bc with U|U;exact .inl U.symm;exact .inr (by rw[U];simp[Value.ownBlock]))
      have bk:Fr B [C.rb,sb] w ac:=((((ad.x af).trans ((hdr.wide.up J).x Z)).alloc aj _).grown n (by simp;omega) (fun g hg=>.inl ((I.good.own (dW k s.regions _ xr) (by simp[aZ])).lt g hg).1))
      have ax:PS C ac j4 c4 ins 0:=av.low ai (((Fr.refl B [] D).alloc aj _).grown n (by simp;omega) (fun g hg=>.inl ((I.good.own (dW k s.regions _ xr) (by simp[aZ])).lt g hg).1))
      have be:ac.heap[sb]?=some (.cells (rA s.name s.first s.last e d l p y (Value.slice ao s.regions.length cap)) 223 (0,0)):=by
       rw[n.block sb (by simp;omega) (fun U=>by have:=((I.good.own (dW k s.regions (Value.slice ao s.regions.length cap) xr) (by simp[aZ])).lt sb U.symm).1;omega)];exact I.at_
      obtain ⟨y5,bz⟩:=lU be 8 (Value.slice ao s.regions.length cap) rfl)
   | (go_simp
      go_at_call 110
      refine (hR _ (i+1) c ins hk ar).mono ?_
      rintro U D h4
      rcases h4.cases with ⟨f,Y,q,rfl,hq⟩|⟨⟨a4,c4,j4⟩,v4,Y,rfl,⟨aw,av⟩,J⟩
      ·exact ⟨rfl,by rw[(HE _ Y).out];exact aR.x ⟨q,rfl,hq⟩ ((ad.x af).drew) Z (by simp)⟩
      obtain ⟨ag,n4,O,rfl⟩:=aM.shape aw
      have br:=ba _ _ _ _ _ Y.out
      have aa:=ab.carry hX Q (hdr.wide.up J)
      obtain ⟨y4,bv⟩:=lU aa.at_ 8 (Value.slice ao s.regions.length cap) rfl
      have cc:=aB aa.at_
      have aj:B≤D.heap.size:=aH5 Z (hdr.wide.up J).size
      have am:Fr D.heap.size [] D (D.alloc (.cells #[.slice ag n4 O] 174)):=(Fr.refl _ _ _).alloc (aF4 _) _
      have I:=aa.carry (X:=[]) (by simp) (by simp) am))
 all_goals
  go_wp2_with fail
  go_ret
  rw[(HO _ _ _ Y).out]
  exact ⟨_,rfl,⟨rfl,by omega,⟨by (show s.enter.length≤j4);omega,by (show s.during.length≤j4);omega,by (show s.leave.length≤j4);omega,by (show s.ways.length≤j4);omega,by simp;omega⟩,ax.put an _ _,⟨_,_,_,_,_,_,_,_,_,_,_,ay⟩⟩,bk.setCell (.inr (by simp)) _⟩
theorem Ej {C:dV}{k B sb ins i c:Nat}{w:World}{s:cF (St k)}{ad:Nat->Nat->Except F (List (St k)×Nat×Nat)}(h:PS C w i c ins 0) (hE:Db C B sb w) (hS:X9 k B sb w s) (hb:Bd i s) (j:tx C.L i=dB) (Q:s.rests≠.nil):Calls Tryz.prog 196 #[.pointer (some ⟨C.rb,0,none⟩),.pointer (some ⟨sb,0,none⟩)] w (lS B [C.rb,sb] (mU C k B sb ins i c s) w (Px.eF C.L (St k) ad s c i)):=by
 obtain ⟨e,d,l,p,y,r,xe,xd,xl,xy,xr,hS⟩:=hS
 have ay:=h.wf.len
 have bb:=h.lt
 have ba:=hb.e
 have ax:=hb.d
 have az:=hb.l
 have be:=hb.y
 have bc:=hb.r
 obtain ⟨au,av,aw,ac⟩:=hE
 have Z:sb∉[C.rb]:=by simp;omega
 have hX:∀x∈[C.rb],x<B:=by simp;omega
 obtain ⟨tb,aa⟩:∃tb:ByteArray,Hid (bs tb=tx C.L i):=⟨⟨(tx C.L i).toArray⟩,rfl⟩
 have HL:Hid (cZ (bs tb)=none):=by rw[Hid,aa.out,j];decide
 have HY:Hid _:=j
 have an:Hid (tx C.L i≠bs ⟨#[114,101,103,105,111,110]⟩):=by rw[Hid,j];decide
 have ap:Hid (tx C.L i≠bs ⟨#[101,110,116,114,121]⟩):=by rw[Hid,j];decide
 have ag:Hid (tx C.L i≠bs ⟨#[100,117,114,105,110,103]⟩):=by rw[Hid,j];decide
 have ak:Hid (tx C.L i≠bs ⟨#[101,120,105,116]⟩):=by rw[Hid,j];decide
 have D:jR (sH B (aZ k s e d l p y r xe xd xl xy xr)) w s.rests p:=hS.good.has (kP s.rests p) (by simp[aZ])
 obtain ⟨gp,aj⟩:∃gp,p=.pointer (some gp):=by
  cases hr:s.rests with
  | nil=>exact absurd hr Q
  | node b o a l r=>rw[hr] at D;obtain ⟨g,lv,rv,ah,_⟩:=D;exact ⟨_,ah⟩
 have HO:Hid (Px.eF C.L (St k) ad s c i=.error (9,pl C.L (i+1))):=by
  rw[Hid,Px.eF,j,show cZ dB=none from by decide];simp only;rw[if_neg (show dB≠dL by decide),if_neg (show dB≠fW by decide),if_neg (show dB≠eM by decide),if_neg (show dB≠jN by decide),if_pos trivial]
  cases hr:s.rests with
  | nil=>exact absurd hr Q
  | node b o a l r=>rfl
 clear D
 subst aj
 clear j Q
 have T0:Hid True:=trivial
 have T1:Hid True:=trivial
 have T2:Hid True:=trivial
 have T3:Hid True:=trivial
 have T4:Hid True:=trivial
 have T5:Hid True:=trivial
 go_enter Tryz.func196,Tryz.ntmps196
 go_wp2_with (first
  | (go_at_call 106;refine (eI h tb aa).mono ?_;rintro I w1 ⟨rfl,ab,J⟩)
  | (go_at_call 223;refine (jL ab tb _ HL).mono ?_;rintro I w2 ⟨rfl,ai⟩;obtain rfl:=ai.symm;rw[rL])
  | (go_at_call 109;clear T0;refine (cN ab ⟨#[114,101,103,105,111,110]⟩ an.out).mono ?_;rintro I w2 ⟨rfl,am,n⟩)
  | (go_at_call 109;clear T1;refine (cN am ⟨#[101,110,116,114,121]⟩ ap.out).mono ?_;rintro I w3 ⟨rfl,ao,U⟩)
  | (go_at_call 109;clear T2;refine (cN ao ⟨#[100,117,114,105,110,103]⟩ ag.out).mono ?_;rintro I w4 ⟨rfl,ar,u⟩)
  | (go_at_call 109;clear T3;refine (cN ar ⟨#[101,120,105,116]⟩ ak.out).mono ?_;rintro I w5 ⟨rfl,al,O⟩)
  | (go_at_call 109;clear T4;refine (dM al ⟨#[115,117,115,112,101,110,100]⟩ HY.out (by decide)).mono ?_;rintro I w6 ⟨rfl,af,Y⟩;have ae:=(((((hS.carry (X:=[]) (by simp) (by simp) J).carry (X:=[]) (by simp) (by simp) n).carry (X:=[]) (by simp) (by simp) U).carry (X:=[]) (by simp) (by simp) u).carry (X:=[]) (by simp) (by simp) O).carry hX Z Y;obtain ⟨y2,-⟩:=lU ae.at_ 6 (Value.pointer (some gp)) rfl)
  | (go_at_call 111;refine (gX af 9).mono ?_;rintro I w7 ⟨q,rfl,hq⟩;exact ⟨rfl,by rw[HO.out];exact aR.x ⟨q,rfl,hq⟩ (((((((J.wide (X:=[C.rb])).up n.wide).up U.wide).up u.wide).up O.wide).up Y).x ac) (aH5 ac ((((((J.wide (X:=[C.rb])).up n.wide).up U.wide).up u.wide).up O.wide).up Y).size) (by simp)⟩))
theorem Ek {C:dV}{k B sb ins i c:Nat}{w:World}{s:cF (St k)}{J:Nat->Nat->Except F (List (St k)×Nat×Nat)}(h:PS C w i c ins 0) (hE:Db C B sb w) (hS:X9 k B sb w s) (hb:Bd i s) (I:tx C.L i=dB) (D:s.rests=.nil):Calls Tryz.prog 196 #[.pointer (some ⟨C.rb,0,none⟩),.pointer (some ⟨sb,0,none⟩)] w (lS B [C.rb,sb] (mU C k B sb ins i c s) w (Px.eF C.L (St k) J s c i)):=by
 obtain ⟨e,d,l,p,y,r,xe,xd,xl,xy,xr,hS⟩:=hS
 have br:=h.wf.len
 have bw:=h.lt
 have bv:=hb.e
 have bq:=hb.d
 have bu:=hb.l
 have cb:=hb.y
 have bz:=hb.r
 obtain ⟨bo,af,ai,ac⟩:=hE
 have n:sb∉[C.rb]:=by simp;omega
 have hX:∀x∈[C.rb],x<B:=by simp;omega
 obtain ⟨tb,ag⟩:∃tb:ByteArray,Hid (bs tb=tx C.L i):=⟨⟨(tx C.L i).toArray⟩,rfl⟩
 have HL:Hid (cZ (bs tb)=none):=by rw[Hid,ag.out,I];decide
 have HY:Hid _:=I
 have bf:Hid (tx C.L i≠bs ⟨#[114,101,103,105,111,110]⟩):=by rw[Hid,I];decide
 have bi:Hid (tx C.L i≠bs ⟨#[101,110,116,114,121]⟩):=by rw[Hid,I];decide
 have av:Hid (tx C.L i≠bs ⟨#[100,117,114,105,110,103]⟩):=by rw[Hid,I];decide
 have ay:Hid (tx C.L i≠bs ⟨#[101,120,105,116]⟩):=by rw[Hid,I];decide
 have Z:jR (sH B (aZ k s e d l p y r xe xd xl xy xr)) w s.rests p:=hS.good.has (kP s.rests p) (by simp[aZ])
 have ax:p=.pointer none:=by rw[D] at Z;exact Z
 clear Z
 subst ax
 have HE:∀f,Hid (eP C.L (i+1)=.error f)->Hid (Px.eF C.L (St k) J s c i=.error f):=fun f hr=>by rw[Hid,Px.eF,I,show cZ dB=none from by decide];simp only;rw[if_neg (show dB≠dL by decide),if_neg (show dB≠fW by decide),if_neg (show dB≠eM by decide),if_neg (show dB≠jN by decide),if_pos trivial,D];simp only;rw[hr.out]
 have be:∀t j f,Hid (eP C.L (i+1)=.ok (t,j))->pD C.L j=.error f->Hid (Px.eF C.L (St k) J s c i=.error f):=fun t j f hr hs=>by rw[Hid,Px.eF,I,show cZ dB=none from by decide];simp only;rw[if_neg (show dB≠dL by decide),if_neg (show dB≠fW by decide),if_neg (show dB≠eM by decide),if_neg (show dB≠jN by decide),if_pos trivial,D];simp only;rw[hr.out];simp only;rw[hs]
 have HO:∀t j m,Hid (eP C.L (i+1)=.ok (t,j))->pD C.L j=.ok m->Hid (Px.eF C.L (St k) J s c i=.ok (some ({ s with rests:=t },c,m))):=fun t j m hr hs=>by rw[Hid,Px.eF,I,show cZ dB=none from by decide];simp only;rw[if_neg (show dB≠dL by decide),if_neg (show dB≠fW by decide),if_neg (show dB≠eM by decide),if_neg (show dB≠jN by decide),if_pos trivial,D];simp only;rw[hr.out];simp only;rw[hs]
 clear I D
 have T0:Hid True:=trivial
 have T1:Hid True:=trivial
 have T2:Hid True:=trivial
 have T3:Hid True:=trivial
 have T4:Hid True:=trivial
 have T5:Hid True:=trivial
 go_enter Tryz.func196,Tryz.ntmps196
 go_wp2_with (first
  | (go_at_call 106;refine (eI h tb ag).mono ?_;rintro O w1 ⟨rfl,al,aj⟩)
  | (go_at_call 223;refine (jL al tb _ HL).mono ?_;rintro O w2 ⟨rfl,aw⟩;obtain rfl:=aw.symm;rw[rL])
  | (go_at_call 109;clear T0;refine (cN al ⟨#[114,101,103,105,111,110]⟩ bf.out).mono ?_;rintro O w2 ⟨rfl,bc,ad⟩)
  | (go_at_call 109;clear T1;refine (cN bc ⟨#[101,110,116,114,121]⟩ bi.out).mono ?_;rintro O w3 ⟨rfl,bh,ao⟩)
  | (go_at_call 109;clear T2;refine (cN bh ⟨#[100,117,114,105,110,103]⟩ av.out).mono ?_;rintro O w4 ⟨rfl,bm,ae⟩)
  | (go_at_call 109;clear T3;refine (cN bm ⟨#[101,120,105,116]⟩ ay.out).mono ?_;rintro O w5 ⟨rfl,az,an⟩)
  | (go_at_call 109;clear T4;refine (dM az ⟨#[115,117,115,112,101,110,100]⟩ HY.out (by decide)).mono ?_;rintro O w6 ⟨rfl,au,ap⟩;have Q:=(((((hS.carry (X:=[]) (by simp) (by simp) aj).carry (X:=[]) (by simp) (by simp) ad).carry (X:=[]) (by simp) (by simp) ao).carry (X:=[]) (by simp) (by simp) ae).carry (X:=[]) (by simp) (by simp) an).carry hX n ap;obtain ⟨y2,-⟩:=lU Q.at_ 6 (Value.pointer none) rfl;have aa:=((((((aj.wide (X:=[C.rb])).up ad.wide).up ao.wide).up ae.wide).up an.wide).up ap);have Y:=aH5 ac aa.size)
  | (go_at_call 226;refine (lN au).mono ?_;rintro O w7 h7;rcases h7.cases with ⟨f,u,q,rfl,hq⟩|⟨⟨t7,j7⟩,v7,u,rfl,⟨ah,ba⟩,U⟩;(· exact ⟨rfl,by rw[(HE _ u).out];exact aR.x ⟨q,rfl,hq⟩ (aa.x ac) Y (by simp)⟩);obtain ⟨u7,rfl⟩:=ah.ptr;have ar:=Q.carry hX n U;obtain ⟨y7,z7⟩:=lU ar.at_ 6 (Value.pointer none) rfl;have bj:=SU.grow_rests ar af Y Q.lts ah;have bp:=qV u;have bb:=ba.put ai 6 (.pointer u7);have bn:Fr B [C.rb,sb] w w7:=(aa.x ac).trans (U.x Y);have ca:=U.size;have am:=bn.setCell (p:=⟨sb,6,none⟩) (.inr (by simp)) (.pointer u7))
  | (go_at_call 101;refine (cD bb ⟨#[59]⟩ fE rfl (by decide)).mono ?_;rintro O w9 h9;rcases h9.cases with ⟨f,ab,q,rfl,hq⟩|⟨_,v9,ab,rfl,⟨rfl,bk⟩,ak⟩;(· exact ⟨rfl,by rw[(be _ _ _ u (sY ab)).out];exact aR.x ⟨q,rfl,hq⟩ am (by simp;omega) (by simp)⟩)))
 go_ret
 rw[(HO _ _ _ u (qL ab)).out]
 exact ⟨_,rfl,⟨rfl,by omega,⟨by (show s.enter.length≤j7+1);omega,by (show s.during.length≤j7+1);omega,by (show s.leave.length≤j7+1);omega,by (show s.ways.length≤j7+1);omega,by (show s.regions.length≤j7+1);omega⟩,bk,⟨_,_,_,_,_,_,_,_,_,_,_,bj.carry hX n ak⟩⟩,am.trans (ak.x (by simp;omega))⟩
theorem Kw {C:dV}{k B sb ins i c:Nat}{w:World}{s:cF (St k)}{ac:Nat->Nat->Except F (List (St k)×Nat×Nat)}(h:PS C w i c ins 0) (hE:Db C B sb w) (hS:X9 k B sb w s) (hb:Bd i s) (hl:cZ (tx C.L i)=none) (j:tx C.L i≠dL) (n:tx C.L i≠fW) (J:tx C.L i≠eM) (D:tx C.L i≠jN) (u:tx C.L i≠dB):Calls Tryz.prog 196 #[.pointer (some ⟨C.rb,0,none⟩),.pointer (some ⟨sb,0,none⟩)] w (lS B [C.rb,sb] (mU C k B sb ins i c s) w (Px.eF C.L (St k) ac s c i)):=by
 obtain ⟨e,d,l,p,y,r,xe,xd,xl,xy,xr,hS⟩:=hS
 have az:=h.wf.len
 have be:=h.lt
 have bb:=hb.e
 have ax:=hb.d
 have ba:=hb.l
 have bc:=hb.y
 have ay:=hb.r
 obtain ⟨au,av,aw,ap⟩:=hE
 have I:sb∉[C.rb]:=by simp;omega
 have hX:∀x∈[C.rb],x<B:=by simp;omega
 obtain ⟨tb,aa⟩:∃tb:ByteArray,Hid (bs tb=tx C.L i):=⟨⟨(tx C.L i).toArray⟩,rfl⟩
 have HL:Hid (cZ (bs tb)=none):=by rw[Hid,aa.out];exact hl
 have HO:Hid (Px.eF C.L (St k) ac s c i=.ok none):=by rw[Hid,Px.eF,hl];simp only;rw[if_neg j,if_neg n,if_neg J,if_neg D,if_neg u]
 have ak:Hid _:=j
 have ao:Hid _:=n
 have aj:Hid _:=J
 have af:Hid _:=D
 have an:Hid _:=u
 clear hl j n J D u
 have T0:Hid True:=trivial
 have T1:Hid True:=trivial
 have T2:Hid True:=trivial
 have T3:Hid True:=trivial
 have T4:Hid True:=trivial
 have T5:Hid True:=trivial
 go_enter Tryz.func196,Tryz.ntmps196
 go_wp2_with (first
  | (go_at_call 106;refine (eI h tb aa).mono ?_;rintro O w1 ⟨rfl,U,ae⟩)
  | (go_at_call 223;refine (jL U tb _ HL).mono ?_;rintro O w2 ⟨rfl,al⟩;obtain rfl:=al.symm;rw[rL])
  | (go_at_call 109;clear T0;refine (cN U ⟨#[114,101,103,105,111,110]⟩ ak.out).mono ?_;rintro O w2 ⟨rfl,ah,Q⟩)
  | (go_at_call 109;clear T1;refine (cN ah ⟨#[101,110,116,114,121]⟩ ao.out).mono ?_;rintro O w3 ⟨rfl,am,ab⟩)
  | (go_at_call 109;clear T2;refine (cN am ⟨#[100,117,114,105,110,103]⟩ aj.out).mono ?_;rintro O w4 ⟨rfl,ar,Y⟩)
  | (go_at_call 109;clear T3;refine (cN ar ⟨#[101,120,105,116]⟩ af.out).mono ?_;rintro O w5 ⟨rfl,ag,Z⟩)
  | (go_at_call 109;clear T4;refine (cN ag ⟨#[115,117,115,112,101,110,100]⟩ an.out).mono ?_;rintro O w6 ⟨rfl,ai,ad⟩))
 go_ret
 rw[HO.out]
 exact ⟨_,rfl,⟨rfl,ai,⟨_,_,_,_,_,_,_,_,_,_,_,(((((hS.carry (X:=[]) (by simp) (by simp) ae).carry (X:=[]) (by simp) (by simp) Q).carry (X:=[]) (by simp) (by simp) ab).carry (X:=[]) (by simp) (by simp) Y).carry (X:=[]) (by simp) (by simp) Z).carry hX I ad.wide⟩⟩,((((((ae.wide (X:=[C.rb])).up Q.wide).up ab.wide).up Y.wide).up Z.wide).up ad.wide).x ap⟩
theorem Qk {C:dV}{k B sb ins i c:Nat}{w:World}{s:cF (St k)}(h:PS C w i c ins 0) (n:Db C B sb w) (u:X9 k B sb w s) (hb:Bd i s) (D:Region C k) (I:ins+k=6) (y:∀c i l c' j,aW C.L k c i=.ok (l,c',j)->i<j):Calls Tryz.prog 196 #[.pointer (some ⟨C.rb,0,none⟩),.pointer (some ⟨sb,0,none⟩)] w (lS B [C.rb,sb] (mU C k B sb ins i c s) w (Px.eF C.L (St k) (aW C.L k) s c i)):=by
 cases hl:cZ (tx C.L i) with
 | some kd=>exact Qj h n u hb kd hl
 | none=>
  by_cases h0:tx C.L i=dL
  ·exact O3 h n u hb D I y h0
  ·by_cases h1:tx C.L i=fW
   ·exact En h n u hb h1
   ·by_cases h2:tx C.L i=eM
    ·exact Ag h n u hb h2
    ·by_cases h3:tx C.L i=jN
     ·exact El h n u hb h3
     ·by_cases h4:tx C.L i=dB
      ·cases hr:s.rests with
       | nil=>exact Ek h n u hb h4 hr
       | node b o a l r=>exact Ej h n u hb h4 (by rw[hr];simp)
      ·exact Kw h n u hb hl h0 h1 h2 h3 h4
end Go.Proofs.YthieaobjdpfcoaaGreatDoor
