import Derived.Test.YthieaobjdpfcoaaGreatDoorUPpart
set_option maxRecDepth 100000
set_option maxHeartbeats 8000000
namespace Go.Proofs.YthieaobjdpfcoaaGreatDoor
open Go.RowKit Px
theorem En {C:dV}{k B sb ins i c:Nat}{w:World}{s:cF (St k)}{Z:Nat->Nat->Except F (List (St k)×Nat×Nat)}(h:PS C w i c ins 0) (hE:Db C B sb w) (hS:X9 k B sb w s) (hb:Bd i s) (hw:tx C.L i=fW):Calls Tryz.prog 196 #[.pointer (some ⟨C.rb,0,none⟩),.pointer (some ⟨sb,0,none⟩)] w (lS B [C.rb,sb] (mU C k B sb ins i c s) w (Px.eF C.L (St k) Z s c i)):=by
 obtain ⟨i0,hi,bu,bv,bw⟩:=aX6 Tryz.info297
 obtain ⟨e,d,l,p,y,r,xe,xd,xl,xy,xr,hS⟩:=hS
 have cj:=h.wf.len
 have ck:=h.lt
 have ce:=hb.e
 have cn:=hb.d
 have cm:=hb.l
 have ch:=hb.y
 have cf:=hb.r
 obtain ⟨aw,bc,be,ag⟩:=hE
 have D:sb∉[C.rb]:=by simp;omega
 have hX:∀x∈[C.rb],x<B:=by simp;omega
 obtain ⟨tb,al⟩:∃tb:ByteArray,Hid (bs tb=tx C.L i):=⟨⟨(tx C.L i).toArray⟩,rfl⟩
 have bi:w.ownsRow B 297 2 e s.enter.length xe:=hS.good.own (cE s.enter e xe) (by simp[aZ])
 obtain ⟨ao,cap,rfl⟩:=aP bi
 have HL:Hid (cZ (bs tb)=none):=by rw[Hid,al.out,hw];decide
 have HY:Hid _:=hw
 have bz:Hid (tx C.L i≠bs ⟨#[114,101,103,105,111,110]⟩):=by rw[Hid,hw];decide
 have HE:∀f,Hid (sets C.L C.L.length [] (i+1)=.error f)->Hid (Px.eF C.L (St k) Z s c i=.error f):=fun f hr=>by rw[Hid,Px.eF,hw,show cZ fW=none from by decide];simp only;rw[if_neg (show fW≠dL by decide),if_pos trivial,hr.out]
 have bp:∀l j f,Hid (sets C.L C.L.length [] (i+1)=.ok (l,j))->pD C.L j=.error f->Hid (Px.eF C.L (St k) Z s c i=.error f):=fun l j f hr hs=>by rw[Hid,Px.eF,hw,show cZ fW=none from by decide];simp only;rw[if_neg (show fW≠dL by decide),if_pos trivial,hr.out];simp only;rw[hs]
 have HO:∀l j m,Hid (sets C.L C.L.length [] (i+1)=.ok (l,j))->pD C.L j=.ok m->Hid (Px.eF C.L (St k) Z s c i=.ok (some ({ s with enter:=s.enter++l },c,m))):=fun l j m hr hs=>by rw[Hid,Px.eF,hw,show cZ fW=none from by decide];simp only;rw[if_neg (show fW≠dL by decide),if_pos trivial,hr.out];simp only;rw[hs]
 have bq:=h.wf.pos
 clear hw
 have T0:Hid True:=trivial
 have T1:Hid True:=trivial
 have T2:Hid True:=trivial
 go_enter Tryz.func196,Tryz.ntmps196
 go_wp2_with (first
  | (go_at_call 106;refine (eI h tb al).mono ?_;rintro Q w1 ⟨rfl,ba,am⟩)
  | (go_at_call 223;refine (jL ba tb _ HL).mono ?_;rintro Q w2 ⟨rfl,br⟩;obtain rfl:=br.symm;rw[rL])
  | (go_at_call 109;clear T0;refine (cN ba ⟨#[114,101,103,105,111,110]⟩ bz.out).mono ?_;rintro Q w2 ⟨rfl,bk,ap⟩)
  | (go_at_call 109;clear T1;refine (dM bk ⟨#[101,110,116,114,121]⟩ HY.out (by decide)).mono ?_;rintro Q w3 ⟨rfl,bj,au⟩))
 have ad:=((hS.carry (X:=[]) (by simp) (by simp) am).carry (X:=[]) (by simp) (by simp) ap).carry hX D au
 have aj:=(((am.wide (X:=[C.rb])).up ap.wide).up au)
 have Y:=aH5 ag aj.size
 have hdr:Fr w3.heap.size [] w3 w3.drew:=(Fr.refl _ _ _).drew
 have az:=bj.same hdr
 obtain ⟨y2,-⟩:=lU ad.at_ 3 (Value.slice ao s.enter.length cap) rfl
 go_region_law
  (first
   | (refine step_append_lies _ (by rfl) _ _ _ (by rfl) B 297 i0 _ 2 24 Tryz.underlying219 hi bu bv bw rfl (by omega) (Value.slice ao s.enter.length cap) s.enter.length xe (by rfl) (u.good.own (cE s.enter _ xe) (by simp[aZ]))
         ⟨g4,0,none⟩ l4.length ay bh (by rfl) U.own.1 (U.own.cells (g:=g4) rfl) (pM _ _ U.rows)
         J (by unfold maxLen;omega) (by omega) af ai.heap.size rfl ?_
      intro gg aa ac ak n bn cd
      have bm:=SU.grow_enter (m:=l4) u bc Y ad.lts (U.rows.map (mT.carry nF)) (by rw[aH7];exact ak) n (by rcases bn with Q|Q;exact .inl Q.symm;exact .inr (by rw[Q];simp[Value.ownBlock]))
      have ah:Fr B [C.rb,sb] w ac:=(((aj.x ag).trans ((hdr.wide.up O).x Y))).grown n af (fun g hg=>.inl ((u.good.own (cE s.enter _ xe) (by simp[aZ])).lt g hg).1)
      have av:PS C ac j4 c ins 0:=ab.low aw ((Fr.refl B [] ai).grown n af (fun g hg=>.inl ((u.good.own (cE s.enter _ xe) (by simp[aZ])).lt g hg).1))
      have ca:ac.heap[sb]?=some (.cells (rA s.name s.first s.last (Value.slice ao s.enter.length cap) d l p y r) 223 (0,0)):=by
       rw[n.block sb bo (fun Q=>by have:=((u.good.own (cE s.enter (Value.slice ao s.enter.length cap) xe) (by simp[aZ])).lt sb Q.symm).1;omega)];exact u.at_
      obtain ⟨y5,cg⟩:=lU ca 3 (Value.slice ao s.enter.length cap) rfl
      have ax:=av.put be 3 (.slice (some ⟨gg,0,none⟩) (s.enter.length+l4.length) aa)
      have ar:=ah.setCell (p:=⟨sb,3,none⟩) (.inr (by simp)) (.slice (some ⟨gg,0,none⟩) (s.enter.length+l4.length) aa))
   | (go_simp
      go_at_call 225
      refine (mW az).mono ?_
      rintro Q ai h4
      rcases h4.cases with ⟨f,I,q,rfl,hq⟩|⟨⟨l4,j4⟩,v4,I,rfl,⟨⟨bh,U⟩,cc,ab⟩,O⟩
      ·exact ⟨rfl,by rw[(HE _ I).out];exact aR.x ⟨q,rfl,hq⟩ ((aj.x ag).drew) Y (by simp)⟩
      have J:=yD bq I.out
      have bb:=(lI _ _ _ _ _ I.out).1
      simp only[aW4,aW8] at bb
      obtain ⟨g4,ay,rfl⟩:=U.some J
      have u:=ad.carry hX D (hdr.wide.up O)
      obtain ⟨y4,ci⟩:=lU u.at_ 3 (Value.slice ao s.enter.length cap) rfl
      have bo:=aB u.at_
      have cb:=ab.lt
      have af:B≤ai.heap.size:=aH5 Y (hdr.wide.up O).size))
 all_goals
  go_wp2_with (go_at_call 101;refine (cD ax ⟨#[59]⟩ fE rfl (by decide)).mono ?_;rintro Q w7 h7;rcases h7.cases with ⟨f,ae,q,rfl,hq⟩|⟨_,v7,ae,rfl,⟨rfl,bf⟩,an⟩;(· exact ⟨rfl,by rw[(bp _ _ _ I (sY ae)).out];exact aR.x ⟨q,rfl,hq⟩ ar (by simp;have:=ah.size;omega) (by simp)⟩))
  go_ret
  rw[(HO _ _ _ I (qL ae)).out]
  exact ⟨_,rfl,⟨rfl,by omega,⟨by simp;omega,by (show s.during.length≤j4+1);omega,by (show s.leave.length≤j4+1);omega,by (show s.ways.length≤j4+1);omega,by (show s.regions.length≤j4+1);omega⟩,bf,⟨_,_,_,_,_,_,_,_,_,_,_,bm.carry hX D an⟩⟩,ar.trans (an.x (by simp;have:=ah.size;omega))⟩
theorem Ag {C:dV}{k B sb ins i c:Nat}{w:World}{s:cF (St k)}{Z:Nat->Nat->Except F (List (St k)×Nat×Nat)}(h:PS C w i c ins 0) (hE:Db C B sb w) (hS:X9 k B sb w s) (hb:Bd i s) (hw:tx C.L i=eM):Calls Tryz.prog 196 #[.pointer (some ⟨C.rb,0,none⟩),.pointer (some ⟨sb,0,none⟩)] w (lS B [C.rb,sb] (mU C k B sb ins i c s) w (Px.eF C.L (St k) Z s c i)):=by
 obtain ⟨i0,hi,bz,ca,cb⟩:=aX6 Tryz.info297
 obtain ⟨e,d,l,p,y,r,xe,xd,xl,xy,xr,hS⟩:=hS
 have cn:=h.wf.len
 have co:=h.lt
 have ch:=hb.e
 have cq:=hb.d
 have cp:=hb.l
 have ck:=hb.y
 have ci:=hb.r
 obtain ⟨ax,be,bf,ag⟩:=hE
 have D:sb∉[C.rb]:=by simp;omega
 have hX:∀x∈[C.rb],x<B:=by simp;omega
 obtain ⟨tb,al⟩:∃tb:ByteArray,Hid (bs tb=tx C.L i):=⟨⟨(tx C.L i).toArray⟩,rfl⟩
 have bk:w.ownsRow B 297 2 d s.during.length xd:=hS.good.own (cE s.during d xd) (by simp[aZ])
 obtain ⟨ao,cap,rfl⟩:=aP bk
 have HL:Hid (cZ (bs tb)=none):=by rw[Hid,al.out,hw];decide
 have HY:Hid _:=hw
 have cc:Hid (tx C.L i≠bs ⟨#[114,101,103,105,111,110]⟩):=by rw[Hid,hw];decide
 have bn:Hid (tx C.L i≠bs ⟨#[101,110,116,114,121]⟩):=by rw[Hid,hw];decide
 have HE:∀f,Hid (sets C.L C.L.length [] (i+1)=.error f)->Hid (Px.eF C.L (St k) Z s c i=.error f):=fun f hr=>by rw[Hid,Px.eF,hw,show cZ eM=none from by decide];simp only;rw[if_neg (show eM≠dL by decide),if_neg (show eM≠fW by decide),if_pos trivial,hr.out]
 have bu:∀l j f,Hid (sets C.L C.L.length [] (i+1)=.ok (l,j))->pD C.L j=.error f->Hid (Px.eF C.L (St k) Z s c i=.error f):=fun l j f hr hs=>by rw[Hid,Px.eF,hw,show cZ eM=none from by decide];simp only;rw[if_neg (show eM≠dL by decide),if_neg (show eM≠fW by decide),if_pos trivial,hr.out];simp only;rw[hs]
 have HO:∀l j m,Hid (sets C.L C.L.length [] (i+1)=.ok (l,j))->pD C.L j=.ok m->Hid (Px.eF C.L (St k) Z s c i=.ok (some ({ s with during:=s.during++l },c,m))):=fun l j m hr hs=>by rw[Hid,Px.eF,hw,show cZ eM=none from by decide];simp only;rw[if_neg (show eM≠dL by decide),if_neg (show eM≠fW by decide),if_pos trivial,hr.out];simp only;rw[hs]
 have bv:=h.wf.pos
 clear hw
 have T0:Hid True:=trivial
 have T1:Hid True:=trivial
 have T2:Hid True:=trivial
 have T3:Hid True:=trivial
 go_enter Tryz.func196,Tryz.ntmps196
 go_wp2_with (first
  | (go_at_call 106;refine (eI h tb al).mono ?_;rintro J w1 ⟨rfl,bb,am⟩)
  | (go_at_call 223;refine (jL bb tb _ HL).mono ?_;rintro J w2 ⟨rfl,bw⟩;obtain rfl:=bw.symm;rw[rL])
  | (go_at_call 109;clear T0;refine (cN bb ⟨#[114,101,103,105,111,110]⟩ cc.out).mono ?_;rintro J w2 ⟨rfl,bo,ar⟩)
  | (go_at_call 109;clear T1;refine (cN bo ⟨#[101,110,116,114,121]⟩ bn.out).mono ?_;rintro J w3 ⟨rfl,bm,av⟩)
  | (go_at_call 109;clear T2;refine (dM bm ⟨#[100,117,114,105,110,103]⟩ HY.out (by decide)).mono ?_;rintro J w4 ⟨rfl,bi,ap⟩))
 have ad:=(((hS.carry (X:=[]) (by simp) (by simp) am).carry (X:=[]) (by simp) (by simp) ar).carry (X:=[]) (by simp) (by simp) av).carry hX D ap
 have aj:=((((am.wide (X:=[C.rb])).up ar.wide).up av.wide).up ap)
 have Y:=aH5 ag aj.size
 have hdr:Fr w4.heap.size [] w4 w4.drew:=(Fr.refl _ _ _).drew
 have ba:=bi.same hdr
 obtain ⟨y2,-⟩:=lU ad.at_ 4 (Value.slice ao s.during.length cap) rfl
 go_region_law
  (first
   | (refine step_append_lies _ (by rfl) _ _ _ (by rfl) B 297 i0 _ 2 24 Tryz.underlying219 hi bz ca cb rfl (by omega) (Value.slice ao s.during.length cap) s.during.length xd (by rfl) (u.good.own (cE s.during _ xd) (by simp[aZ]))
         ⟨g4,0,none⟩ l4.length az bj (by rfl) U.own.1 (U.own.cells (g:=g4) rfl) (pM _ _ U.rows)
         O (by unfold maxLen;omega) (by omega) af ai.heap.size rfl ?_
      intro gg aa ac ak n bq cg
      have bp:=SU.grow_during (m:=l4) u be Y ad.lts (U.rows.map (mT.carry nF)) (by rw[aH7];exact ak) n (by rcases bq with J|J;exact .inl J.symm;exact .inr (by rw[J];simp[Value.ownBlock]))
      have ah:Fr B [C.rb,sb] w ac:=(((aj.x ag).trans ((hdr.wide.up Q).x Y))).grown n af (fun g hg=>.inl ((u.good.own (cE s.during _ xd) (by simp[aZ])).lt g hg).1)
      have aw:PS C ac j4 c ins 0:=ab.low ax ((Fr.refl B [] ai).grown n af (fun g hg=>.inl ((u.good.own (cE s.during _ xd) (by simp[aZ])).lt g hg).1))
      have cd:ac.heap[sb]?=some (.cells (rA s.name s.first s.last e (Value.slice ao s.during.length cap) l p y r) 223 (0,0)):=by
       rw[n.block sb br (fun J=>by have:=((u.good.own (cE s.during (Value.slice ao s.during.length cap) xd) (by simp[aZ])).lt sb J.symm).1;omega)];exact u.at_
      obtain ⟨y5,cj⟩:=lU cd 4 (Value.slice ao s.during.length cap) rfl
      have ay:=aw.put bf 4 (.slice (some ⟨gg,0,none⟩) (s.during.length+l4.length) aa)
      have au:=ah.setCell (p:=⟨sb,4,none⟩) (.inr (by simp)) (.slice (some ⟨gg,0,none⟩) (s.during.length+l4.length) aa))
   | (go_simp
      go_at_call 225
      refine (mW ba).mono ?_
      rintro J ai h4
      rcases h4.cases with ⟨f,I,q,rfl,hq⟩|⟨⟨l4,j4⟩,v4,I,rfl,⟨⟨bj,U⟩,cf,ab⟩,Q⟩
      ·exact ⟨rfl,by rw[(HE _ I).out];exact aR.x ⟨q,rfl,hq⟩ ((aj.x ag).drew) Y (by simp)⟩
      have O:=yD bv I.out
      have bc:=(lI _ _ _ _ _ I.out).1
      simp only[aW4,aW8] at bc
      obtain ⟨g4,az,rfl⟩:=U.some O
      have u:=ad.carry hX D (hdr.wide.up Q)
      obtain ⟨y4,cm⟩:=lU u.at_ 4 (Value.slice ao s.during.length cap) rfl
      have br:=aB u.at_
      have ce:=ab.lt
      have af:B≤ai.heap.size:=aH5 Y (hdr.wide.up Q).size))
 all_goals
  go_wp2_with (go_at_call 101;refine (cD ay ⟨#[59]⟩ fE rfl (by decide)).mono ?_;rintro J w7 h7;rcases h7.cases with ⟨f,ae,q,rfl,hq⟩|⟨_,v7,ae,rfl,⟨rfl,bh⟩,an⟩;(· exact ⟨rfl,by rw[(bu _ _ _ I (sY ae)).out];exact aR.x ⟨q,rfl,hq⟩ au (by simp;have:=ah.size;omega) (by simp)⟩))
  go_ret
  rw[(HO _ _ _ I (qL ae)).out]
  exact ⟨_,rfl,⟨rfl,by omega,⟨by (show s.enter.length≤j4+1);omega,by simp;omega,by (show s.leave.length≤j4+1);omega,by (show s.ways.length≤j4+1);omega,by (show s.regions.length≤j4+1);omega⟩,bh,⟨_,_,_,_,_,_,_,_,_,_,_,bp.carry hX D an⟩⟩,au.trans (an.x (by simp;have:=ah.size;omega))⟩
theorem El {C:dV}{k B sb ins i c:Nat}{w:World}{s:cF (St k)}{aa:Nat->Nat->Except F (List (St k)×Nat×Nat)}(h:PS C w i c ins 0) (hE:Db C B sb w) (hS:X9 k B sb w s) (hb:Bd i s) (Z:tx C.L i=jN):Calls Tryz.prog 196 #[.pointer (some ⟨C.rb,0,none⟩),.pointer (some ⟨sb,0,none⟩)] w (lS B [C.rb,sb] (mU C k B sb ins i c s) w (Px.eF C.L (St k) aa s c i)):=by
 obtain ⟨i0,hi,cd,ce,cf⟩:=aX6 Tryz.info297
 obtain ⟨e,d,l,p,y,r,xe,xd,xl,xy,xr,hS⟩:=hS
 have cr:=h.wf.len
 have ct:=h.lt
 have cm:=hb.e
 have cv:=hb.d
 have cu:=hb.l
 have cp:=hb.y
 have cn:=hb.r
 obtain ⟨ay,bf,bh,ah⟩:=hE
 have D:sb∉[C.rb]:=by simp;omega
 have hX:∀x∈[C.rb],x<B:=by simp;omega
 obtain ⟨tb,am⟩:∃tb:ByteArray,Hid (bs tb=tx C.L i):=⟨⟨(tx C.L i).toArray⟩,rfl⟩
 have bn:w.ownsRow B 297 2 l s.leave.length xl:=hS.good.own (cE s.leave l xl) (by simp[aZ])
 obtain ⟨ao,cap,rfl⟩:=aP bn
 have HL:Hid (cZ (bs tb)=none):=by rw[Hid,am.out,Z];decide
 have HY:Hid _:=Z
 have cg:Hid (tx C.L i≠bs ⟨#[114,101,103,105,111,110]⟩):=by rw[Hid,Z];decide
 have bp:Hid (tx C.L i≠bs ⟨#[101,110,116,114,121]⟩):=by rw[Hid,Z];decide
 have br:Hid (tx C.L i≠bs ⟨#[100,117,114,105,110,103]⟩):=by rw[Hid,Z];decide
 have HE:∀f,Hid (sets C.L C.L.length [] (i+1)=.error f)->Hid (Px.eF C.L (St k) aa s c i=.error f):=fun f hr=>by rw[Hid,Px.eF,Z,show cZ jN=none from by decide];simp only;rw[if_neg (show jN≠dL by decide),if_neg (show jN≠fW by decide),if_neg (show jN≠eM by decide),if_pos trivial,hr.out]
 have bz:∀l j f,Hid (sets C.L C.L.length [] (i+1)=.ok (l,j))->pD C.L j=.error f->Hid (Px.eF C.L (St k) aa s c i=.error f):=fun l j f hr hs=>by rw[Hid,Px.eF,Z,show cZ jN=none from by decide];simp only;rw[if_neg (show jN≠dL by decide),if_neg (show jN≠fW by decide),if_neg (show jN≠eM by decide),if_pos trivial,hr.out];simp only;rw[hs]
 have HO:∀l j m,Hid (sets C.L C.L.length [] (i+1)=.ok (l,j))->pD C.L j=.ok m->Hid (Px.eF C.L (St k) aa s c i=.ok (some ({ s with leave:=s.leave++l },c,m))):=fun l j m hr hs=>by rw[Hid,Px.eF,Z,show cZ jN=none from by decide];simp only;rw[if_neg (show jN≠dL by decide),if_neg (show jN≠fW by decide),if_neg (show jN≠eM by decide),if_pos trivial,hr.out];simp only;rw[hs]
 have ca:=h.wf.pos
 clear Z
 have T0:Hid True:=trivial
 have T1:Hid True:=trivial
 have T2:Hid True:=trivial
 have T3:Hid True:=trivial
 have T4:Hid True:=trivial
 go_enter Tryz.func196,Tryz.ntmps196
 go_wp2_with (first
  | (go_at_call 106;refine (eI h tb am).mono ?_;rintro J w1 ⟨rfl,bc,an⟩)
  | (go_at_call 223;refine (jL bc tb _ HL).mono ?_;rintro J w2 ⟨rfl,cb⟩;obtain rfl:=cb.symm;rw[rL])
  | (go_at_call 109;clear T0;refine (cN bc ⟨#[114,101,103,105,111,110]⟩ cg.out).mono ?_;rintro J w2 ⟨rfl,bq,au⟩)
  | (go_at_call 109;clear T1;refine (cN bq ⟨#[101,110,116,114,121]⟩ bp.out).mono ?_;rintro J w3 ⟨rfl,bo,aw⟩)
  | (go_at_call 109;clear T2;refine (cN bo ⟨#[100,117,114,105,110,103]⟩ br.out).mono ?_;rintro J w4 ⟨rfl,bk,ar⟩)
  | (go_at_call 109;clear T3;refine (dM bk ⟨#[101,120,105,116]⟩ HY.out (by decide)).mono ?_;rintro J w5 ⟨rfl,cc,bi⟩))
 have ae:=((((hS.carry (X:=[]) (by simp) (by simp) an).carry (X:=[]) (by simp) (by simp) au).carry (X:=[]) (by simp) (by simp) aw).carry (X:=[]) (by simp) (by simp) ar).carry hX D bi
 have ak:=(((((an.wide (X:=[C.rb])).up au.wide).up aw.wide).up ar.wide).up bi)
 have Y:=aH5 ah ak.size
 have hdr:Fr w5.heap.size [] w5 w5.drew:=(Fr.refl _ _ _).drew
 have bb:=cc.same hdr
 obtain ⟨y2,-⟩:=lU ae.at_ 5 (Value.slice ao s.leave.length cap) rfl
 go_region_law
  (first
   | (refine step_append_lies _ (by rfl) _ _ _ (by rfl) B 297 i0 _ 2 24 Tryz.underlying219 hi cd ce cf rfl (by omega) (Value.slice ao s.leave.length cap) s.leave.length xl (by rfl) (u.good.own (cE s.leave _ xl) (by simp[aZ]))
         ⟨g4,0,none⟩ l4.length ba bm (by rfl) U.own.1 (U.own.cells (g:=g4) rfl) (pM _ _ U.rows)
         O (by unfold maxLen;omega) (by omega) ag aj.heap.size rfl ?_
      intro gg ab ad al n bv ck
      have bu:=SU.grow_leave (m:=l4) u bf Y ae.lts (U.rows.map (mT.carry nF)) (by rw[aH7];exact al) n (by rcases bv with J|J;exact .inl J.symm;exact .inr (by rw[J];simp[Value.ownBlock]))
      have ai:Fr B [C.rb,sb] w ad:=(((ak.x ah).trans ((hdr.wide.up Q).x Y))).grown n ag (fun g hg=>.inl ((u.good.own (cE s.leave _ xl) (by simp[aZ])).lt g hg).1)
      have ax:PS C ad j4 c ins 0:=ac.low ay ((Fr.refl B [] aj).grown n ag (fun g hg=>.inl ((u.good.own (cE s.leave _ xl) (by simp[aZ])).lt g hg).1))
      have ch:ad.heap[sb]?=some (.cells (rA s.name s.first s.last e d (Value.slice ao s.leave.length cap) p y r) 223 (0,0)):=by
       rw[n.block sb bw (fun J=>by have:=((u.good.own (cE s.leave (Value.slice ao s.leave.length cap) xl) (by simp[aZ])).lt sb J.symm).1;omega)];exact u.at_
      obtain ⟨y5,co⟩:=lU ch 5 (Value.slice ao s.leave.length cap) rfl
      have az:=ax.put bh 5 (.slice (some ⟨gg,0,none⟩) (s.leave.length+l4.length) ab)
      have av:=ai.setCell (p:=⟨sb,5,none⟩) (.inr (by simp)) (.slice (some ⟨gg,0,none⟩) (s.leave.length+l4.length) ab))
   | (go_simp
      go_at_call 225
      refine (mW bb).mono ?_
      rintro J aj h4
      rcases h4.cases with ⟨f,I,q,rfl,hq⟩|⟨⟨l4,j4⟩,v4,I,rfl,⟨⟨bm,U⟩,cj,ac⟩,Q⟩
      ·exact ⟨rfl,by rw[(HE _ I).out];exact aR.x ⟨q,rfl,hq⟩ ((ak.x ah).drew) Y (by simp)⟩
      have O:=yD ca I.out
      have be:=(lI _ _ _ _ _ I.out).1
      simp only[aW4,aW8] at be
      obtain ⟨g4,ba,rfl⟩:=U.some O
      have u:=ae.carry hX D (hdr.wide.up Q)
      obtain ⟨y4,cq⟩:=lU u.at_ 5 (Value.slice ao s.leave.length cap) rfl
      have bw:=aB u.at_
      have ci:=ac.lt
      have ag:B≤aj.heap.size:=aH5 Y (hdr.wide.up Q).size))
 all_goals
  go_wp2_with (go_at_call 101;refine (cD az ⟨#[59]⟩ fE rfl (by decide)).mono ?_;rintro J w7 h7;rcases h7.cases with ⟨f,af,q,rfl,hq⟩|⟨_,v7,af,rfl,⟨rfl,bj⟩,ap⟩;(· exact ⟨rfl,by rw[(bz _ _ _ I (sY af)).out];exact aR.x ⟨q,rfl,hq⟩ av (by simp;have:=ai.size;omega) (by simp)⟩))
  go_ret
  rw[(HO _ _ _ I (qL af)).out]
  exact ⟨_,rfl,⟨rfl,by omega,⟨by (show s.enter.length≤j4+1);omega,by (show s.during.length≤j4+1);omega,by simp;omega,by (show s.ways.length≤j4+1);omega,by (show s.regions.length≤j4+1);omega⟩,bj,⟨_,_,_,_,_,_,_,_,_,_,_,bu.carry hX D ap⟩⟩,av.trans (ap.x (by simp;have:=ai.size;omega))⟩
def Region (C:dV) (k:Nat):Prop:=∀(w:World) (i c ins:Nat),ins+k=6->PS C w i c ins 0->Calls Tryz.prog 110 #[.pointer (some ⟨C.rb,0,none⟩)] w (vU C (fun x v w'=>aM (Ge w.heap.size) w' k x.1 v/\PS C w' x.2.2 x.2.1 ins 0) w (aW C.L k c i))
theorem aM.shape {A:Nat->Prop}{w:World}{k:Nat}{l:List (St k)}{v:Value}(h:aM A w k l v):∃ao n cap,v=.slice ao n cap:=by
 cases k with
 | zero=>exact ⟨none,0,0,h.2⟩
 | succ k=>
  obtain ⟨j,c,_⟩:=h
  obtain ⟨ao,cap,rfl⟩:=aP c.1
  exact ⟨ao,_,cap,rfl⟩
theorem cell_one_new (w:World) (a:Value) (t:TypeId):∀j u,[a][j]?=some u->(w.alloc (.cells #[a] t)).cell? ((⟨w.heap.size,0,none⟩:Addr).add j)=some u:=by
 intro j u c
 match j,c with
 | 0,c=>simp at c;subst c;simp[Addr.add]
 | j+1,c=>simp at c
theorem O3 {C:dV}{k B sb ins i c:Nat}{w:World}{s:cF (St k)}(h:PS C w i c ins 0) (hE:Db C B sb w) (hS:X9 k B sb w s) (hb:Bd i s) (hR:Region C k) (hk:ins+k=6) (bc:∀c i l c' j,aW C.L k c i=.ok (l,c',j)->i<j) (hw:tx C.L i=dL):Calls Tryz.prog 196 #[.pointer (some ⟨C.rb,0,none⟩),.pointer (some ⟨sb,0,none⟩)] w (lS B [C.rb,sb] (mU C k B sb ins i c s) w (Px.eF C.L (St k) (aW C.L k) s c i)):=by
 obtain ⟨i0,hi,bh,bi,bj⟩:=aX6 Tryz.info174
 obtain ⟨e,d,l,p,y,r,xe,xd,xl,xy,xr,hS⟩:=hS
 have bz:=h.wf.len
 have ca:=h.lt
 have bo:=hb.e
 have cc:=hb.d
 have cb:=hb.l
 have bu:=hb.y
 have bq:=hb.r
 obtain ⟨an,aw,ax,ad⟩:=hE
 have Q:sb∉[C.rb]:=by simp;omega
 have hX:∀x∈[C.rb],x<B:=by simp;omega
 obtain ⟨tb,ah⟩:∃tb:ByteArray,Hid (bs tb=tx C.L i):=⟨⟨(tx C.L i).toArray⟩,rfl⟩
 have ay:w.ownsRow B 174 1 r s.regions.length xr:=hS.good.own (dW k s.regions r xr) (by simp[aZ])
 obtain ⟨ao,cap,rfl⟩:=aP ay
 have HL:Hid (cZ (bs tb)=none):=by rw[Hid,ah.out,hw];decide
 have HY:Hid _:=hw
 have HE:∀f,Hid (aW C.L k c (i+1)=.error f)->Hid (Px.eF C.L (St k) (aW C.L k) s c i=.error f):=fun f hr=>by rw[Hid,Px.eF,hw,show cZ dL=none from by decide];simp only;rw[if_pos trivial,hr.out]
 have HO:∀l c' j,Hid (aW C.L k c (i+1)=.ok (l,c',j))->Hid (Px.eF C.L (St k) (aW C.L k) s c i=.ok (some ({ s with regions:=s.regions++[l] },c',j))):=fun l c' j hr=>by rw[Hid,Px.eF,hw,show cZ dL=none from by decide];simp only;rw[if_pos trivial,hr.out]
 clear hw
 have T0:Hid True:=trivial
 have T1:Hid True:=trivial
 go_enter Tryz.func196,Tryz.ntmps196
 go_wp2_with (first
  | (go_at_call 106;refine (eI h tb ah).mono ?_;rintro Z w1 ⟨rfl,au,ai⟩)
  | (go_at_call 223;refine (jL au tb _ HL).mono ?_;rintro Z w2 ⟨rfl,bf⟩;obtain rfl:=bf.symm;rw[rL])
  | (go_at_call 109;clear T0;refine (dM au ⟨#[114,101,103,105,111,110]⟩ HY.out (by decide)).mono ?_;rintro Z w2 ⟨rfl,ba,aj⟩))
 have ac:=(hS.carry (X:=[]) (by simp) (by simp) ai).carry hX Q aj
 have ae:=((ai.wide (X:=[C.rb])).up aj)
 have U:=aH5 ad ae.size
 have hdr:Fr w2.heap.size [] w2 w2.drew:=(Fr.refl _ _ _).drew
 have ap:=ba.same hdr
 obtain ⟨y2,-⟩:=lU ac.at_ 8 (Value.slice ao s.regions.length cap) rfl
 go_region_law
  (first
   | (refine step_append_lies _ (by rfl) _ _ _ (by rfl) B 174 i0 _ 1 24 Tryz.underlying45 hi bh bi bj rfl (by omega) (Value.slice ao s.regions.length cap) s.regions.length xr (by rfl) (I.good.own (dW k s.regions _ xr) (by simp[aZ]))
         ⟨D.heap.size,0,none⟩ 1 1 [.slice ag n4 O] (by rfl) (by rfl) (cell_one_new D _ 174) (by intro u hu;simp at hu;subst hu;rfl)
         (by omega) (by unfold maxLen;omega) (by omega) (by simp;omega) (D.heap.size+1) (by simp) ?_
      intro gg bm ab af n be bn
      have bb:=SU.grow_regions (a:=a4) (u:=.slice ag n4 O) I aw U ac.lts ⟨rfl,aM.carry (bA (X:=[]) (by simp) av) k _ _ al⟩ (by rw[aH7];exact af) n (by rcases be with Z|Z;exact .inl Z.symm;exact .inr (by rw[Z];simp[Value.ownBlock]))
      have az:Fr B [C.rb,sb] w ab:=((((ae.x ad).trans ((hdr.wide.up J).x U)).alloc ak _).grown n (by simp;omega) (fun g hg=>.inl ((I.good.own (dW k s.regions _ xr) (by simp[aZ])).lt g hg).1))
      have am:PS C ab j4 c4 ins 0:=ar.low an (((Fr.refl B [] D).alloc ak _).grown n (by simp;omega) (fun g hg=>.inl ((I.good.own (dW k s.regions _ xr) (by simp[aZ])).lt g hg).1))
      have bk:ab.heap[sb]?=some (.cells (rA s.name s.first s.last e d l p y (Value.slice ao s.regions.length cap)) 223 (0,0)):=by
       rw[n.block sb (by simp;omega) (fun Z=>by have:=((I.good.own (dW k s.regions (Value.slice ao s.regions.length cap) xr) (by simp[aZ])).lt sb Z.symm).1;omega)];exact I.at_
      obtain ⟨y5,br⟩:=lU bk 8 (Value.slice ao s.regions.length cap) rfl)
   | (go_simp
      go_at_call 110
      refine (hR _ (i+1) c ins hk ap).mono ?_
      rintro Z D h4
      rcases h4.cases with ⟨f,Y,q,rfl,hq⟩|⟨⟨a4,c4,j4⟩,v4,Y,rfl,⟨al,ar⟩,J⟩
      ·exact ⟨rfl,by rw[(HE _ Y).out];exact aR.x ⟨q,rfl,hq⟩ ((ae.x ad).drew) U (by simp)⟩
      obtain ⟨ag,n4,O,rfl⟩:=aM.shape al
      have bp:=bc _ _ _ _ _ Y.out
      have aa:=ac.carry hX Q (hdr.wide.up J)
      obtain ⟨y4,bv⟩:=lU aa.at_ 8 (Value.slice ao s.regions.length cap) rfl
      have bw:=aB aa.at_
      have ak:B≤D.heap.size:=aH5 U (hdr.wide.up J).size
      have av:Fr D.heap.size [] D (D.alloc (.cells #[.slice ag n4 O] 174)):=(Fr.refl _ _ _).alloc (aF4 _) _
      have I:=aa.carry (X:=[]) (by simp) (by simp) av))
 all_goals
  go_wp2_with fail
  go_ret
  rw[(HO _ _ _ Y).out]
  exact ⟨_,rfl,⟨rfl,by omega,⟨by (show s.enter.length≤j4);omega,by (show s.during.length≤j4);omega,by (show s.leave.length≤j4);omega,by (show s.ways.length≤j4);omega,by simp;omega⟩,am.put ax _ _,⟨_,_,_,_,_,_,_,_,_,_,_,bb⟩⟩,az.setCell (.inr (by simp)) _⟩
theorem Ej {C:dV}{k B sb ins i c:Nat}{w:World}{s:cF (St k)}{ac:Nat->Nat->Except F (List (St k)×Nat×Nat)}(h:PS C w i c ins 0) (hE:Db C B sb w) (hS:X9 k B sb w s) (hb:Bd i s) (j:tx C.L i=dB) (Q:s.rests≠.nil):Calls Tryz.prog 196 #[.pointer (some ⟨C.rb,0,none⟩),.pointer (some ⟨sb,0,none⟩)] w (lS B [C.rb,sb] (mU C k B sb ins i c s) w (Px.eF C.L (St k) ac s c i)):=by
 obtain ⟨e,d,l,p,y,r,xe,xd,xl,xy,xr,hS⟩:=hS
 have ba:=h.wf.len
 have bb:=h.lt
 have ax:=hb.e
 have bc:=hb.d
 have be:=hb.l
 have az:=hb.y
 have ay:=hb.r
 obtain ⟨au,av,aw,ab⟩:=hE
 have U:sb∉[C.rb]:=by simp;omega
 have hX:∀x∈[C.rb],x<B:=by simp;omega
 obtain ⟨tb,aa⟩:∃tb:ByteArray,Hid (bs tb=tx C.L i):=⟨⟨(tx C.L i).toArray⟩,rfl⟩
 have HL:Hid (cZ (bs tb)=none):=by rw[Hid,aa.out,j];decide
 have HY:Hid _:=j
 have ap:Hid (tx C.L i≠bs ⟨#[114,101,103,105,111,110]⟩):=by rw[Hid,j];decide
 have ak:Hid (tx C.L i≠bs ⟨#[101,110,116,114,121]⟩):=by rw[Hid,j];decide
 have al:Hid (tx C.L i≠bs ⟨#[100,117,114,105,110,103]⟩):=by rw[Hid,j];decide
 have ae:Hid (tx C.L i≠bs ⟨#[101,120,105,116]⟩):=by rw[Hid,j];decide
 have J:jR (sH B (aZ k s e d l p y r xe xd xl xy xr)) w s.rests p:=hS.good.has (kP s.rests p) (by simp[aZ])
 obtain ⟨gp,aj⟩:∃gp,p=.pointer (some gp):=by
  cases hr:s.rests with
  | nil=>exact absurd hr Q
  | node b o a l r=>rw[hr] at J;obtain ⟨g,lv,rv,ah,_⟩:=J;exact ⟨_,ah⟩
 have HO:Hid (Px.eF C.L (St k) ac s c i=.error (9,pl C.L (i+1))):=by
  rw[Hid,Px.eF,j,show cZ dB=none from by decide];simp only;rw[if_neg (show dB≠dL by decide),if_neg (show dB≠fW by decide),if_neg (show dB≠eM by decide),if_neg (show dB≠jN by decide),if_pos trivial]
  cases hr:s.rests with
  | nil=>exact absurd hr Q
  | node b o a l r=>rfl
 clear J
 subst aj
 clear j Q
 have T0:Hid True:=trivial
 have T1:Hid True:=trivial
 have T2:Hid True:=trivial
 have T3:Hid True:=trivial
 have T4:Hid True:=trivial
 have T5:Hid True:=trivial
 go_enter Tryz.func196,Tryz.ntmps196
 go_wp2_with (first
  | (go_at_call 106;refine (eI h tb aa).mono ?_;rintro O w1 ⟨rfl,ad,n⟩)
  | (go_at_call 223;refine (jL ad tb _ HL).mono ?_;rintro O w2 ⟨rfl,an⟩;obtain rfl:=an.symm;rw[rL])
  | (go_at_call 109;clear T0;refine (cN ad ⟨#[114,101,103,105,111,110]⟩ ap.out).mono ?_;rintro O w2 ⟨rfl,am,D⟩)
  | (go_at_call 109;clear T1;refine (cN am ⟨#[101,110,116,114,121]⟩ ak.out).mono ?_;rintro O w3 ⟨rfl,ai,I⟩)
  | (go_at_call 109;clear T2;refine (cN ai ⟨#[100,117,114,105,110,103]⟩ al.out).mono ?_;rintro O w4 ⟨rfl,ag,u⟩)
  | (go_at_call 109;clear T3;refine (cN ag ⟨#[101,120,105,116]⟩ ae.out).mono ?_;rintro O w5 ⟨rfl,ao,Y⟩)
  | (go_at_call 109;clear T4;refine (dM ao ⟨#[115,117,115,112,101,110,100]⟩ HY.out (by decide)).mono ?_;rintro O w6 ⟨rfl,af,Z⟩;have ar:=(((((hS.carry (X:=[]) (by simp) (by simp) n).carry (X:=[]) (by simp) (by simp) D).carry (X:=[]) (by simp) (by simp) I).carry (X:=[]) (by simp) (by simp) u).carry (X:=[]) (by simp) (by simp) Y).carry hX U Z;obtain ⟨y2,-⟩:=lU ar.at_ 6 (Value.pointer (some gp)) rfl)
  | (go_at_call 111;refine (gX af 9).mono ?_;rintro O w7 ⟨q,rfl,hq⟩;exact ⟨rfl,by rw[HO.out];exact aR.x ⟨q,rfl,hq⟩ (((((((n.wide (X:=[C.rb])).up D.wide).up I.wide).up u.wide).up Y.wide).up Z).x ab) (aH5 ab ((((((n.wide (X:=[C.rb])).up D.wide).up I.wide).up u.wide).up Y.wide).up Z).size) (by simp)⟩))
theorem Ek {C:dV}{k B sb ins i c:Nat}{w:World}{s:cF (St k)}{J:Nat->Nat->Except F (List (St k)×Nat×Nat)}(h:PS C w i c ins 0) (hE:Db C B sb w) (hS:X9 k B sb w s) (hb:Bd i s) (I:tx C.L i=dB) (D:s.rests=.nil):Calls Tryz.prog 196 #[.pointer (some ⟨C.rb,0,none⟩),.pointer (some ⟨sb,0,none⟩)] w (lS B [C.rb,sb] (mU C k B sb ins i c s) w (Px.eF C.L (St k) J s c i)):=by
 obtain ⟨e,d,l,p,y,r,xe,xd,xl,xy,xr,hS⟩:=hS
 have bw:=h.wf.len
 have bz:=h.lt
 have bp:=hb.e
 have cb:=hb.d
 have ca:=hb.l
 have br:=hb.y
 have bq:=hb.r
 obtain ⟨bo,al,an,Z⟩:=hE
 have n:sb∉[C.rb]:=by simp;omega
 have hX:∀x∈[C.rb],x<B:=by simp;omega
 obtain ⟨tb,ad⟩:∃tb:ByteArray,Hid (bs tb=tx C.L i):=⟨⟨(tx C.L i).toArray⟩,rfl⟩
 have HL:Hid (cZ (bs tb)=none):=by rw[Hid,ad.out,I];decide
 have HY:Hid _:=I
 have bm:Hid (tx C.L i≠bs ⟨#[114,101,103,105,111,110]⟩):=by rw[Hid,I];decide
 have bc:Hid (tx C.L i≠bs ⟨#[101,110,116,114,121]⟩):=by rw[Hid,I];decide
 have be:Hid (tx C.L i≠bs ⟨#[100,117,114,105,110,103]⟩):=by rw[Hid,I];decide
 have av:Hid (tx C.L i≠bs ⟨#[101,120,105,116]⟩):=by rw[Hid,I];decide
 have aa:jR (sH B (aZ k s e d l p y r xe xd xl xy xr)) w s.rests p:=hS.good.has (kP s.rests p) (by simp[aZ])
 have au:p=.pointer none:=by rw[D] at aa;exact aa
 clear aa
 subst au
 have HE:∀f,Hid (eP C.L (i+1)=.error f)->Hid (Px.eF C.L (St k) J s c i=.error f):=fun f hr=>by rw[Hid,Px.eF,I,show cZ dB=none from by decide];simp only;rw[if_neg (show dB≠dL by decide),if_neg (show dB≠fW by decide),if_neg (show dB≠eM by decide),if_neg (show dB≠jN by decide),if_pos trivial,D];simp only;rw[hr.out]
 have bi:∀t j f,Hid (eP C.L (i+1)=.ok (t,j))->pD C.L j=.error f->Hid (Px.eF C.L (St k) J s c i=.error f):=fun t j f hr hs=>by rw[Hid,Px.eF,I,show cZ dB=none from by decide];simp only;rw[if_neg (show dB≠dL by decide),if_neg (show dB≠fW by decide),if_neg (show dB≠eM by decide),if_neg (show dB≠jN by decide),if_pos trivial,D];simp only;rw[hr.out];simp only;rw[hs]
 have HO:∀t j m,Hid (eP C.L (i+1)=.ok (t,j))->pD C.L j=.ok m->Hid (Px.eF C.L (St k) J s c i=.ok (some ({ s with rests:=t },c,m))):=fun t j m hr hs=>by rw[Hid,Px.eF,I,show cZ dB=none from by decide];simp only;rw[if_neg (show dB≠dL by decide),if_neg (show dB≠fW by decide),if_neg (show dB≠eM by decide),if_neg (show dB≠jN by decide),if_pos trivial,D];simp only;rw[hr.out];simp only;rw[hs]
 clear I D
 have T0:Hid True:=trivial
 have T1:Hid True:=trivial
 have T2:Hid True:=trivial
 have T3:Hid True:=trivial
 have T4:Hid True:=trivial
 have T5:Hid True:=trivial
 go_enter Tryz.func196,Tryz.ntmps196
 go_wp2_with (first
  | (go_at_call 106;refine (eI h tb ad).mono ?_;rintro O w1 ⟨rfl,ak,ae⟩)
  | (go_at_call 223;refine (jL ak tb _ HL).mono ?_;rintro O w2 ⟨rfl,bj⟩;obtain rfl:=bj.symm;rw[rL])
  | (go_at_call 109;clear T0;refine (cN ak ⟨#[114,101,103,105,111,110]⟩ bm.out).mono ?_;rintro O w2 ⟨rfl,bf,ai⟩)
  | (go_at_call 109;clear T1;refine (cN bf ⟨#[101,110,116,114,121]⟩ bc.out).mono ?_;rintro O w3 ⟨rfl,ba,aj⟩)
  | (go_at_call 109;clear T2;refine (cN ba ⟨#[100,117,114,105,110,103]⟩ be.out).mono ?_;rintro O w4 ⟨rfl,az,ag⟩)
  | (go_at_call 109;clear T3;refine (cN az ⟨#[101,120,105,116]⟩ av.out).mono ?_;rintro O w5 ⟨rfl,bk,ap⟩)
  | (go_at_call 109;clear T4;refine (dM bk ⟨#[115,117,115,112,101,110,100]⟩ HY.out (by decide)).mono ?_;rintro O w6 ⟨rfl,ay,ar⟩;have ac:=(((((hS.carry (X:=[]) (by simp) (by simp) ae).carry (X:=[]) (by simp) (by simp) ai).carry (X:=[]) (by simp) (by simp) aj).carry (X:=[]) (by simp) (by simp) ag).carry (X:=[]) (by simp) (by simp) ap).carry hX n ar;obtain ⟨y2,-⟩:=lU ac.at_ 6 (Value.pointer none) rfl;have U:=((((((ae.wide (X:=[C.rb])).up ai.wide).up aj.wide).up ag.wide).up ap.wide).up ar);have Y:=aH5 Z U.size)
  | (go_at_call 226;refine (lN ay).mono ?_;rintro O w7 h7;rcases h7.cases with ⟨f,u,q,rfl,hq⟩|⟨⟨t7,j7⟩,v7,u,rfl,⟨ao,aw⟩,Q⟩;(· exact ⟨rfl,by rw[(HE _ u).out];exact aR.x ⟨q,rfl,hq⟩ (U.x Z) Y (by simp)⟩);obtain ⟨u7,rfl⟩:=ao.ptr;have am:=ac.carry hX n Q;obtain ⟨y7,z7⟩:=lU am.at_ 6 (Value.pointer none) rfl;have bb:=SU.grow_rests am al Y ac.lts ao;have bu:=qV u;have ax:=aw.put an 6 (.pointer u7);have bn:Fr B [C.rb,sb] w w7:=(U.x Z).trans (Q.x Y);have bv:=Q.size;have af:=bn.setCell (p:=⟨sb,6,none⟩) (.inr (by simp)) (.pointer u7))
  | (go_at_call 101;refine (cD ax ⟨#[59]⟩ fE rfl (by decide)).mono ?_;rintro O w9 h9;rcases h9.cases with ⟨f,ab,q,rfl,hq⟩|⟨_,v9,ab,rfl,⟨rfl,bh⟩,ah⟩;(· exact ⟨rfl,by rw[(bi _ _ _ u (sY ab)).out];exact aR.x ⟨q,rfl,hq⟩ af (by simp;omega) (by simp)⟩)))
 go_ret
 rw[(HO _ _ _ u (qL ab)).out]
 exact ⟨_,rfl,⟨rfl,by omega,⟨by (show s.enter.length≤j7+1);omega,by (show s.during.length≤j7+1);omega,by (show s.leave.length≤j7+1);omega,by (show s.ways.length≤j7+1);omega,by (show s.regions.length≤j7+1);omega⟩,bh,⟨_,_,_,_,_,_,_,_,_,_,_,bb.carry hX n ah⟩⟩,af.trans (ah.x (by simp;omega))⟩
theorem Kw {C:dV}{k B sb ins i c:Nat}{w:World}{s:cF (St k)}{Z:Nat->Nat->Except F (List (St k)×Nat×Nat)}(h:PS C w i c ins 0) (hE:Db C B sb w) (hS:X9 k B sb w s) (hb:Bd i s) (hl:cZ (tx C.L i)=none) (I:tx C.L i≠dL) (u:tx C.L i≠fW) (J:tx C.L i≠eM) (j:tx C.L i≠jN) (n:tx C.L i≠dB):Calls Tryz.prog 196 #[.pointer (some ⟨C.rb,0,none⟩),.pointer (some ⟨sb,0,none⟩)] w (lS B [C.rb,sb] (mU C k B sb ins i c s) w (Px.eF C.L (St k) Z s c i)):=by
 obtain ⟨e,d,l,p,y,r,xe,xd,xl,xy,xr,hS⟩:=hS
 have ba:=h.wf.len
 have bb:=h.lt
 have ax:=hb.e
 have bc:=hb.d
 have be:=hb.l
 have az:=hb.y
 have ay:=hb.r
 obtain ⟨av,au,aw,an⟩:=hE
 have D:sb∉[C.rb]:=by simp;omega
 have hX:∀x∈[C.rb],x<B:=by simp;omega
 obtain ⟨tb,Q⟩:∃tb:ByteArray,Hid (bs tb=tx C.L i):=⟨⟨(tx C.L i).toArray⟩,rfl⟩
 have HL:Hid (cZ (bs tb)=none):=by rw[Hid,Q.out];exact hl
 have HO:Hid (Px.eF C.L (St k) Z s c i=.ok none):=by rw[Hid,Px.eF,hl];simp only;rw[if_neg I,if_neg u,if_neg J,if_neg j,if_neg n]
 have ap:Hid _:=I
 have af:Hid _:=u
 have ah:Hid _:=J
 have ag:Hid _:=j
 have ao:Hid _:=n
 clear hl I u J j n
 have T0:Hid True:=trivial
 have T1:Hid True:=trivial
 have T2:Hid True:=trivial
 have T3:Hid True:=trivial
 have T4:Hid True:=trivial
 have T5:Hid True:=trivial
 go_enter Tryz.func196,Tryz.ntmps196
 go_wp2_with (first
  | (go_at_call 106;refine (eI h tb Q).mono ?_;rintro O w1 ⟨rfl,aa,U⟩)
  | (go_at_call 223;refine (jL aa tb _ HL).mono ?_;rintro O w2 ⟨rfl,aj⟩;obtain rfl:=aj.symm;rw[rL])
  | (go_at_call 109;clear T0;refine (cN aa ⟨#[114,101,103,105,111,110]⟩ ap.out).mono ?_;rintro O w2 ⟨rfl,ai,ab⟩)
  | (go_at_call 109;clear T1;refine (cN ai ⟨#[101,110,116,114,121]⟩ af.out).mono ?_;rintro O w3 ⟨rfl,ar,ac⟩)
  | (go_at_call 109;clear T2;refine (cN ar ⟨#[100,117,114,105,110,103]⟩ ah.out).mono ?_;rintro O w4 ⟨rfl,am,Y⟩)
  | (go_at_call 109;clear T3;refine (cN am ⟨#[101,120,105,116]⟩ ag.out).mono ?_;rintro O w5 ⟨rfl,al,ad⟩)
  | (go_at_call 109;clear T4;refine (cN al ⟨#[115,117,115,112,101,110,100]⟩ ao.out).mono ?_;rintro O w6 ⟨rfl,ak,ae⟩))
 go_ret
 rw[HO.out]
 exact ⟨_,rfl,⟨rfl,ak,⟨_,_,_,_,_,_,_,_,_,_,_,(((((hS.carry (X:=[]) (by simp) (by simp) U).carry (X:=[]) (by simp) (by simp) ab).carry (X:=[]) (by simp) (by simp) ac).carry (X:=[]) (by simp) (by simp) Y).carry (X:=[]) (by simp) (by simp) ad).carry hX D ae.wide⟩⟩,((((((U.wide (X:=[C.rb])).up ab.wide).up ac.wide).up Y.wide).up ad.wide).up ae.wide).x an⟩
theorem Qk {C:dV}{k B sb ins i c:Nat}{w:World}{s:cF (St k)}(h:PS C w i c ins 0) (u:Db C B sb w) (n:X9 k B sb w s) (hb:Bd i s) (I:Region C k) (D:ins+k=6) (y:∀c i l c' j,aW C.L k c i=.ok (l,c',j)->i<j):Calls Tryz.prog 196 #[.pointer (some ⟨C.rb,0,none⟩),.pointer (some ⟨sb,0,none⟩)] w (lS B [C.rb,sb] (mU C k B sb ins i c s) w (Px.eF C.L (St k) (aW C.L k) s c i)):=by
 cases hl:cZ (tx C.L i) with
 | some kd=>exact Qj h u n hb kd hl
 | none=>
  by_cases h0:tx C.L i=dL
  ·exact O3 h u n hb I D y h0
  ·by_cases h1:tx C.L i=fW
   ·exact En h u n hb h1
   ·by_cases h2:tx C.L i=eM
    ·exact Ag h u n hb h2
    ·by_cases h3:tx C.L i=jN
     ·exact El h u n hb h3
     ·by_cases h4:tx C.L i=dB
      ·cases hr:s.rests with
       | nil=>exact Ek h u n hb h4 hr
       | node b o a l r=>exact Ej h u n hb h4 (by rw[hr];simp)
      ·exact Kw h u n hb hl h0 h1 h2 h3 h4
end Go.Proofs.YthieaobjdpfcoaaGreatDoor
