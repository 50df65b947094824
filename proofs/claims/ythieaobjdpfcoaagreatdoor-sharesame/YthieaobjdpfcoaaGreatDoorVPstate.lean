import Derived.Test.YthieaobjdpfcoaaGreatDoorVPpart
set_option maxRecDepth 100000
set_option maxHeartbeats 8000000
namespace Go.Proofs.YthieaobjdpfcoaaGreatDoor
open Go.Proofs.Tryz (prog)
section
open Go.RowKit Px
theorem En {C:dV}{k B sb ins i c:Nat}{w:World}{s:cF (St k)}{Z:Nat->Nat->Except F (List (St k)×Nat×Nat)}(h:PS C w i c ins 0) (hE:Db C B sb w) (hS:X9 k B sb w s) (hb:Bd i s) (hw:tx C.L i=fW):Calls prog 196 #[.pointer (some ⟨C.rb,0,none⟩),.pointer (some ⟨sb,0,none⟩)] w (lS B [C.rb,sb] (mU C k B sb ins i c s) w (Px.eF C.L (St k) Z s c i)):=by
 obtain ⟨i0,hi,bp,bu,bm⟩:=aZ1 Tryz.info297
 obtain ⟨e,d,l,p,y,r,xe,xd,xl,xy,xr,hS⟩:=hS
 have cf:=h.wf.len
 have cj:=h.lt
 have ck:=hb.e
 have cg:=hb.d
 have ce:=hb.l
 have ci:=hb.y
 have ch:=hb.r
 obtain ⟨be,az,ax,ai⟩:=hE
 have D:sb∉[C.rb]:=by simp;omega
 have hX:∀x∈[C.rb],x<B:=by simp;omega
 obtain ⟨tb,au⟩:∃tb:ByteArray,Hid (bs tb=tx C.L i):=⟨⟨(tx C.L i).toArray⟩,rfl⟩
 have bh:w.ownsRow B 297 2 e s.enter.length xe:=hS.good.own (cE s.enter e xe) (by simp[aZ])
 obtain ⟨ao,cap,rfl⟩:=aP bh
 have HL:Hid (cZ (bs tb)=none):=by rw[Hid,au.out,hw];decide
 have HY:Hid _:=hw
 have bg:Hid (tx C.L i≠bs ⟨#[114,101,103,105,111,110]⟩):=by rw[Hid,hw];decide
 have HE:∀f,Hid (sets C.L C.L.length [] (i+1)=.error f)->Hid (Px.eF C.L (St k) Z s c i=.error f):=fun f hr=>by rw[Hid,Px.eF,hw,show cZ fW=none from by decide];simp only;rw[if_neg (show fW≠dL by decide),if_pos trivial,hr.out]
 have bw:∀l j f,Hid (sets C.L C.L.length [] (i+1)=.ok (l,j))->pD C.L j=.error f->Hid (Px.eF C.L (St k) Z s c i=.error f):=fun l j f hr hs=>by rw[Hid,Px.eF,hw,show cZ fW=none from by decide];simp only;rw[if_neg (show fW≠dL by decide),if_pos trivial,hr.out];simp only;rw[hs]
 have HO:∀l j m,Hid (sets C.L C.L.length [] (i+1)=.ok (l,j))->pD C.L j=.ok m->Hid (Px.eF C.L (St k) Z s c i=.ok (some ({ s with enter:=s.enter++l },c,m))):=fun l j m hr hs=>by rw[Hid,Px.eF,hw,show cZ fW=none from by decide];simp only;rw[if_neg (show fW≠dL by decide),if_pos trivial,hr.out];simp only;rw[hs]
 have br:=h.wf.pos
 clear hw
 have T0:Hid True:=trivial
 have T1:Hid True:=trivial
 have T2:Hid True:=trivial
 go_enter Tryz.func196,Tryz.ntmps196
 go_wp2_with (first
  | (go_at_call 106;refine (eI h tb au).mono ?_;rintro J w1 ⟨rfl,av,bc⟩)
  | (go_at_call 223;refine (jL av tb _ HL).mono ?_;rintro J w2 ⟨rfl,bf⟩;obtain rfl:=bf.symm;rw[rL])
  | (go_at_call 109;clear T0;refine (cN av ⟨#[114,101,103,105,111,110]⟩ bg.out).mono ?_;rintro J w2 ⟨rfl,bk,bb⟩)
  | (go_at_call 109;clear T1;refine (dM bk ⟨#[101,110,116,114,121]⟩ HY.out (by decide)).mono ?_;rintro J w3 ⟨rfl,bi,aw⟩))
 have ad:=((hS.carry (X:=[]) (by simp) (by simp) bc).carry (X:=[]) (by simp) (by simp) bb).carry hX D aw
 have ak:=(((bc.wide (X:=[C.rb])).up bb.wide).up aw)
 have Y:=aO6 ai ak.size
 have hdr:Fr w3.heap.size [] w3 w3.drew:=(Fr.refl _ _ _).drew
 have ay:=bi.same hdr
 obtain ⟨y2,-⟩:=lU ad.at_ 3 (Value.slice ao s.enter.length cap) rfl
 go_region_law
  (first
   | (refine step_append_lies _ (by rfl) _ _ _ (by rfl) B 297 i0 _ 2 24 Tryz.underlying219 hi bp bu bm rfl (by omega) (Value.slice ao s.enter.length cap) s.enter.length xe (by rfl) (u.good.own (cE s.enter _ xe) (by simp[aZ]))
         ⟨g4,0,none⟩ l4.length ar bj (by rfl) Q.own.1 (Q.own.cells (g:=g4) rfl) (pM _ _ Q.rows)
         O (by unfold maxLen;omega) (by omega) aj ag.heap.size rfl ?_
      intro gg ab af ae n bq ca
      have bo:=SU.grow_enter (m:=l4) u az Y ad.lts (Q.rows.map (mT.carry nF)) (by rw[aO9];exact ae) n (by rcases bq with J|J;exact .inl J.symm;exact .inr (by rw[J];simp[Value.ownBlock]))
      have ac:Fr B [C.rb,sb] w af:=(((ak.x ai).trans ((hdr.wide.up U).x Y))).grown n aj (fun g hg=>.inl ((u.good.own (cE s.enter _ xe) (by simp[aZ])).lt g hg).1)
      have ap:PS C af j4 c ins 0:=aa.low be ((Fr.refl B [] ag).grown n aj (fun g hg=>.inl ((u.good.own (cE s.enter _ xe) (by simp[aZ])).lt g hg).1))
      have bv:af.heap[sb]?=some (.cells (rA s.name s.first s.last (Value.slice ao s.enter.length cap) d l p y r) 223 (0,0)):=by
       rw[n.block sb bn (fun J=>by have:=((u.good.own (cE s.enter (Value.slice ao s.enter.length cap) xe) (by simp[aZ])).lt sb J.symm).1;omega)];exact u.at_
      obtain ⟨y5,cm⟩:=lU bv 3 (Value.slice ao s.enter.length cap) rfl
      have ba:=ap.put ax 3 (.slice (some ⟨gg,0,none⟩) (s.enter.length+l4.length) ab)
      have am:=ac.setCell (p:=⟨sb,3,none⟩) (.inr (by simp)) (.slice (some ⟨gg,0,none⟩) (s.enter.length+l4.length) ab))
   | (go_simp
      go_at_call 225
      refine (mW ay).mono ?_
      rintro J ag h4
      rcases h4.cases with ⟨f,I,q,rfl,hq⟩|⟨⟨l4,j4⟩,v4,I,rfl,⟨⟨bj,Q⟩,cc,aa⟩,U⟩
      ·exact ⟨rfl,by rw[(HE _ I).out];exact aR.x ⟨q,rfl,hq⟩ ((ak.x ai).drew) Y (by simp)⟩
      have O:=yD br I.out
      have al:=(lI _ _ _ _ _ I.out).1
      simp only[aX9,aY4] at al
      obtain ⟨g4,ar,rfl⟩:=Q.some O
      have u:=ad.carry hX D (hdr.wide.up U)
      obtain ⟨y4,cd⟩:=lU u.at_ 3 (Value.slice ao s.enter.length cap) rfl
      have bn:=aB u.at_
      have cb:=aa.lt
      have aj:B≤ag.heap.size:=aO6 Y (hdr.wide.up U).size))
 all_goals
  go_wp2_with (go_at_call 101;refine (cD ba ⟨#[59]⟩ fE rfl (by decide)).mono ?_;rintro J w7 h7;rcases h7.cases with ⟨f,ah,q,rfl,hq⟩|⟨_,v7,ah,rfl,⟨rfl,bz⟩,an⟩;(· exact ⟨rfl,by rw[(bw _ _ _ I (sY ah)).out];exact aR.x ⟨q,rfl,hq⟩ am (by simp;have:=ac.size;omega) (by simp)⟩))
  go_ret
  rw[(HO _ _ _ I (qL ah)).out]
  exact ⟨_,rfl,⟨rfl,by omega,⟨by simp;omega,by (show s.during.length≤j4+1);omega,by (show s.leave.length≤j4+1);omega,by (show s.ways.length≤j4+1);omega,by (show s.regions.length≤j4+1);omega⟩,bz,⟨_,_,_,_,_,_,_,_,_,_,_,bo.carry hX D an⟩⟩,am.trans (an.x (by simp;have:=ac.size;omega))⟩
theorem Ag {C:dV}{k B sb ins i c:Nat}{w:World}{s:cF (St k)}{Z:Nat->Nat->Except F (List (St k)×Nat×Nat)}(h:PS C w i c ins 0) (hE:Db C B sb w) (hS:X9 k B sb w s) (hb:Bd i s) (hw:tx C.L i=eM):Calls prog 196 #[.pointer (some ⟨C.rb,0,none⟩),.pointer (some ⟨sb,0,none⟩)] w (lS B [C.rb,sb] (mU C k B sb ins i c s) w (Px.eF C.L (St k) Z s c i)):=by
 obtain ⟨i0,hi,br,bw,bn⟩:=aZ1 Tryz.info297
 obtain ⟨e,d,l,p,y,r,xe,xd,xl,xy,xr,hS⟩:=hS
 have ci:=h.wf.len
 have cn:=h.lt
 have co:=hb.e
 have cj:=hb.d
 have ch:=hb.l
 have cm:=hb.y
 have ck:=hb.r
 obtain ⟨bf,ba,ax,ai⟩:=hE
 have D:sb∉[C.rb]:=by simp;omega
 have hX:∀x∈[C.rb],x<B:=by simp;omega
 obtain ⟨tb,au⟩:∃tb:ByteArray,Hid (bs tb=tx C.L i):=⟨⟨(tx C.L i).toArray⟩,rfl⟩
 have bi:w.ownsRow B 297 2 d s.during.length xd:=hS.good.own (cE s.during d xd) (by simp[aZ])
 obtain ⟨ao,cap,rfl⟩:=aP bi
 have HL:Hid (cZ (bs tb)=none):=by rw[Hid,au.out,hw];decide
 have HY:Hid _:=hw
 have bh:Hid (tx C.L i≠bs ⟨#[114,101,103,105,111,110]⟩):=by rw[Hid,hw];decide
 have ca:Hid (tx C.L i≠bs ⟨#[101,110,116,114,121]⟩):=by rw[Hid,hw];decide
 have HE:∀f,Hid (sets C.L C.L.length [] (i+1)=.error f)->Hid (Px.eF C.L (St k) Z s c i=.error f):=fun f hr=>by rw[Hid,Px.eF,hw,show cZ eM=none from by decide];simp only;rw[if_neg (show eM≠dL by decide),if_neg (show eM≠fW by decide),if_pos trivial,hr.out]
 have cb:∀l j f,Hid (sets C.L C.L.length [] (i+1)=.ok (l,j))->pD C.L j=.error f->Hid (Px.eF C.L (St k) Z s c i=.error f):=fun l j f hr hs=>by rw[Hid,Px.eF,hw,show cZ eM=none from by decide];simp only;rw[if_neg (show eM≠dL by decide),if_neg (show eM≠fW by decide),if_pos trivial,hr.out];simp only;rw[hs]
 have HO:∀l j m,Hid (sets C.L C.L.length [] (i+1)=.ok (l,j))->pD C.L j=.ok m->Hid (Px.eF C.L (St k) Z s c i=.ok (some ({ s with during:=s.during++l },c,m))):=fun l j m hr hs=>by rw[Hid,Px.eF,hw,show cZ eM=none from by decide];simp only;rw[if_neg (show eM≠dL by decide),if_neg (show eM≠fW by decide),if_pos trivial,hr.out];simp only;rw[hs]
 have bv:=h.wf.pos
 clear hw
 have T0:Hid True:=trivial
 have T1:Hid True:=trivial
 have T2:Hid True:=trivial
 have T3:Hid True:=trivial
 go_enter Tryz.func196,Tryz.ntmps196
 go_wp2_with (first
  | (go_at_call 106;refine (eI h tb au).mono ?_;rintro J w1 ⟨rfl,av,be⟩)
  | (go_at_call 223;refine (jL av tb _ HL).mono ?_;rintro J w2 ⟨rfl,bg⟩;obtain rfl:=bg.symm;rw[rL])
  | (go_at_call 109;clear T0;refine (cN av ⟨#[114,101,103,105,111,110]⟩ bh.out).mono ?_;rintro J w2 ⟨rfl,bm,bc⟩)
  | (go_at_call 109;clear T1;refine (cN bm ⟨#[101,110,116,114,121]⟩ ca.out).mono ?_;rintro J w3 ⟨rfl,bj,aw⟩)
  | (go_at_call 109;clear T2;refine (dM bj ⟨#[100,117,114,105,110,103]⟩ HY.out (by decide)).mono ?_;rintro J w4 ⟨rfl,bp,az⟩))
 have ad:=(((hS.carry (X:=[]) (by simp) (by simp) be).carry (X:=[]) (by simp) (by simp) bc).carry (X:=[]) (by simp) (by simp) aw).carry hX D az
 have ak:=((((be.wide (X:=[C.rb])).up bc.wide).up aw.wide).up az)
 have Y:=aO6 ai ak.size
 have hdr:Fr w4.heap.size [] w4 w4.drew:=(Fr.refl _ _ _).drew
 have ay:=bp.same hdr
 obtain ⟨y2,-⟩:=lU ad.at_ 4 (Value.slice ao s.during.length cap) rfl
 go_region_law
  (first
   | (refine step_append_lies _ (by rfl) _ _ _ (by rfl) B 297 i0 _ 2 24 Tryz.underlying219 hi br bw bn rfl (by omega) (Value.slice ao s.during.length cap) s.during.length xd (by rfl) (u.good.own (cE s.during _ xd) (by simp[aZ]))
         ⟨g4,0,none⟩ l4.length ar bk (by rfl) Q.own.1 (Q.own.cells (g:=g4) rfl) (pM _ _ Q.rows)
         O (by unfold maxLen;omega) (by omega) aj ag.heap.size rfl ?_
      intro gg ab af ae n bu cd
      have bq:=SU.grow_during (m:=l4) u ba Y ad.lts (Q.rows.map (mT.carry nF)) (by rw[aO9];exact ae) n (by rcases bu with J|J;exact .inl J.symm;exact .inr (by rw[J];simp[Value.ownBlock]))
      have ac:Fr B [C.rb,sb] w af:=(((ak.x ai).trans ((hdr.wide.up U).x Y))).grown n aj (fun g hg=>.inl ((u.good.own (cE s.during _ xd) (by simp[aZ])).lt g hg).1)
      have ap:PS C af j4 c ins 0:=aa.low bf ((Fr.refl B [] ag).grown n aj (fun g hg=>.inl ((u.good.own (cE s.during _ xd) (by simp[aZ])).lt g hg).1))
      have bz:af.heap[sb]?=some (.cells (rA s.name s.first s.last e (Value.slice ao s.during.length cap) l p y r) 223 (0,0)):=by
       rw[n.block sb bo (fun J=>by have:=((u.good.own (cE s.during (Value.slice ao s.during.length cap) xd) (by simp[aZ])).lt sb J.symm).1;omega)];exact u.at_
      obtain ⟨y5,cp⟩:=lU bz 4 (Value.slice ao s.during.length cap) rfl
      have bb:=ap.put ax 4 (.slice (some ⟨gg,0,none⟩) (s.during.length+l4.length) ab)
      have am:=ac.setCell (p:=⟨sb,4,none⟩) (.inr (by simp)) (.slice (some ⟨gg,0,none⟩) (s.during.length+l4.length) ab))
   | (go_simp
      go_at_call 225
      refine (mW ay).mono ?_
      rintro J ag h4
      rcases h4.cases with ⟨f,I,q,rfl,hq⟩|⟨⟨l4,j4⟩,v4,I,rfl,⟨⟨bk,Q⟩,cf,aa⟩,U⟩
      ·exact ⟨rfl,by rw[(HE _ I).out];exact aR.x ⟨q,rfl,hq⟩ ((ak.x ai).drew) Y (by simp)⟩
      have O:=yD bv I.out
      have al:=(lI _ _ _ _ _ I.out).1
      simp only[aX9,aY4] at al
      obtain ⟨g4,ar,rfl⟩:=Q.some O
      have u:=ad.carry hX D (hdr.wide.up U)
      obtain ⟨y4,cg⟩:=lU u.at_ 4 (Value.slice ao s.during.length cap) rfl
      have bo:=aB u.at_
      have ce:=aa.lt
      have aj:B≤ag.heap.size:=aO6 Y (hdr.wide.up U).size))
 all_goals
  go_wp2_with (go_at_call 101;refine (cD bb ⟨#[59]⟩ fE rfl (by decide)).mono ?_;rintro J w7 h7;rcases h7.cases with ⟨f,ah,q,rfl,hq⟩|⟨_,v7,ah,rfl,⟨rfl,cc⟩,an⟩;(· exact ⟨rfl,by rw[(cb _ _ _ I (sY ah)).out];exact aR.x ⟨q,rfl,hq⟩ am (by simp;have:=ac.size;omega) (by simp)⟩))
  go_ret
  rw[(HO _ _ _ I (qL ah)).out]
  exact ⟨_,rfl,⟨rfl,by omega,⟨by (show s.enter.length≤j4+1);omega,by simp;omega,by (show s.leave.length≤j4+1);omega,by (show s.ways.length≤j4+1);omega,by (show s.regions.length≤j4+1);omega⟩,cc,⟨_,_,_,_,_,_,_,_,_,_,_,bq.carry hX D an⟩⟩,am.trans (an.x (by simp;have:=ac.size;omega))⟩
theorem El {C:dV}{k B sb ins i c:Nat}{w:World}{s:cF (St k)}{aa:Nat->Nat->Except F (List (St k)×Nat×Nat)}(h:PS C w i c ins 0) (hE:Db C B sb w) (hS:X9 k B sb w s) (hb:Bd i s) (Y:tx C.L i=jN):Calls prog 196 #[.pointer (some ⟨C.rb,0,none⟩),.pointer (some ⟨sb,0,none⟩)] w (lS B [C.rb,sb] (mU C k B sb ins i c s) w (Px.eF C.L (St k) aa s c i)):=by
 obtain ⟨i0,hi,bw,cc,bp⟩:=aZ1 Tryz.info297
 obtain ⟨e,d,l,p,y,r,xe,xd,xl,xy,xr,hS⟩:=hS
 have cn:=h.wf.len
 have cr:=h.lt
 have ct:=hb.e
 have co:=hb.d
 have cm:=hb.l
 have cq:=hb.y
 have cp:=hb.r
 obtain ⟨bh,bc,ay,ak⟩:=hE
 have D:sb∉[C.rb]:=by simp;omega
 have hX:∀x∈[C.rb],x<B:=by simp;omega
 obtain ⟨tb,av⟩:∃tb:ByteArray,Hid (bs tb=tx C.L i):=⟨⟨(tx C.L i).toArray⟩,rfl⟩
 have bk:w.ownsRow B 297 2 l s.leave.length xl:=hS.good.own (cE s.leave l xl) (by simp[aZ])
 obtain ⟨ao,cap,rfl⟩:=aP bk
 have HL:Hid (cZ (bs tb)=none):=by rw[Hid,av.out,Y];decide
 have HY:Hid _:=Y
 have bj:Hid (tx C.L i≠bs ⟨#[114,101,103,105,111,110]⟩):=by rw[Hid,Y];decide
 have ce:Hid (tx C.L i≠bs ⟨#[101,110,116,114,121]⟩):=by rw[Hid,Y];decide
 have bv:Hid (tx C.L i≠bs ⟨#[100,117,114,105,110,103]⟩):=by rw[Hid,Y];decide
 have HE:∀f,Hid (sets C.L C.L.length [] (i+1)=.error f)->Hid (Px.eF C.L (St k) aa s c i=.error f):=fun f hr=>by rw[Hid,Px.eF,Y,show cZ jN=none from by decide];simp only;rw[if_neg (show jN≠dL by decide),if_neg (show jN≠fW by decide),if_neg (show jN≠eM by decide),if_pos trivial,hr.out]
 have cf:∀l j f,Hid (sets C.L C.L.length [] (i+1)=.ok (l,j))->pD C.L j=.error f->Hid (Px.eF C.L (St k) aa s c i=.error f):=fun l j f hr hs=>by rw[Hid,Px.eF,Y,show cZ jN=none from by decide];simp only;rw[if_neg (show jN≠dL by decide),if_neg (show jN≠fW by decide),if_neg (show jN≠eM by decide),if_pos trivial,hr.out];simp only;rw[hs]
 have HO:∀l j m,Hid (sets C.L C.L.length [] (i+1)=.ok (l,j))->pD C.L j=.ok m->Hid (Px.eF C.L (St k) aa s c i=.ok (some ({ s with leave:=s.leave++l },c,m))):=fun l j m hr hs=>by rw[Hid,Px.eF,Y,show cZ jN=none from by decide];simp only;rw[if_neg (show jN≠dL by decide),if_neg (show jN≠fW by decide),if_neg (show jN≠eM by decide),if_pos trivial,hr.out];simp only;rw[hs]
 have cb:=h.wf.pos
 clear Y
 have T0:Hid True:=trivial
 have T1:Hid True:=trivial
 have T2:Hid True:=trivial
 have T3:Hid True:=trivial
 have T4:Hid True:=trivial
 go_enter Tryz.func196,Tryz.ntmps196
 go_wp2_with (first
  | (go_at_call 106;refine (eI h tb av).mono ?_;rintro I w1 ⟨rfl,aw,bg⟩)
  | (go_at_call 223;refine (jL aw tb _ HL).mono ?_;rintro I w2 ⟨rfl,bi⟩;obtain rfl:=bi.symm;rw[rL])
  | (go_at_call 109;clear T0;refine (cN aw ⟨#[114,101,103,105,111,110]⟩ bj.out).mono ?_;rintro I w2 ⟨rfl,bo,bf⟩)
  | (go_at_call 109;clear T1;refine (cN bo ⟨#[101,110,116,114,121]⟩ ce.out).mono ?_;rintro I w3 ⟨rfl,bm,ax⟩)
  | (go_at_call 109;clear T2;refine (cN bm ⟨#[100,117,114,105,110,103]⟩ bv.out).mono ?_;rintro I w4 ⟨rfl,br,bb⟩)
  | (go_at_call 109;clear T3;refine (dM br ⟨#[101,120,105,116]⟩ HY.out (by decide)).mono ?_;rintro I w5 ⟨rfl,bz,az⟩))
 have af:=((((hS.carry (X:=[]) (by simp) (by simp) bg).carry (X:=[]) (by simp) (by simp) bf).carry (X:=[]) (by simp) (by simp) ax).carry (X:=[]) (by simp) (by simp) bb).carry hX D az
 have ae:=(((((bg.wide (X:=[C.rb])).up bf.wide).up ax.wide).up bb.wide).up az)
 have Z:=aO6 ak ae.size
 have hdr:Fr w5.heap.size [] w5 w5.drew:=(Fr.refl _ _ _).drew
 have ba:=bz.same hdr
 obtain ⟨y2,-⟩:=lU af.at_ 5 (Value.slice ao s.leave.length cap) rfl
 go_region_law
  (first
   | (refine step_append_lies _ (by rfl) _ _ _ (by rfl) B 297 i0 _ 2 24 Tryz.underlying219 hi bw cc bp rfl (by omega) (Value.slice ao s.leave.length cap) s.leave.length xl (by rfl) (u.good.own (cE s.leave _ xl) (by simp[aZ]))
         ⟨g4,0,none⟩ l4.length au bn (by rfl) Q.own.1 (Q.own.cells (g:=g4) rfl) (pM _ _ Q.rows)
         O (by unfold maxLen;omega) (by omega) al ai.heap.size rfl ?_
      intro gg ac ah ag n ca ch
      have bu:=SU.grow_leave (m:=l4) u bc Z af.lts (Q.rows.map (mT.carry nF)) (by rw[aO9];exact ag) n (by rcases ca with I|I;exact .inl I.symm;exact .inr (by rw[I];simp[Value.ownBlock]))
      have ad:Fr B [C.rb,sb] w ah:=(((ae.x ak).trans ((hdr.wide.up U).x Z))).grown n al (fun g hg=>.inl ((u.good.own (cE s.leave _ xl) (by simp[aZ])).lt g hg).1)
      have ar:PS C ah j4 c ins 0:=ab.low bh ((Fr.refl B [] ai).grown n al (fun g hg=>.inl ((u.good.own (cE s.leave _ xl) (by simp[aZ])).lt g hg).1))
      have cd:ah.heap[sb]?=some (.cells (rA s.name s.first s.last e d (Value.slice ao s.leave.length cap) p y r) 223 (0,0)):=by
       rw[n.block sb bq (fun I=>by have:=((u.good.own (cE s.leave (Value.slice ao s.leave.length cap) xl) (by simp[aZ])).lt sb I.symm).1;omega)];exact u.at_
      obtain ⟨y5,cu⟩:=lU cd 5 (Value.slice ao s.leave.length cap) rfl
      have be:=ar.put ay 5 (.slice (some ⟨gg,0,none⟩) (s.leave.length+l4.length) ac)
      have an:=ad.setCell (p:=⟨sb,5,none⟩) (.inr (by simp)) (.slice (some ⟨gg,0,none⟩) (s.leave.length+l4.length) ac))
   | (go_simp
      go_at_call 225
      refine (mW ba).mono ?_
      rintro I ai h4
      rcases h4.cases with ⟨f,J,q,rfl,hq⟩|⟨⟨l4,j4⟩,v4,J,rfl,⟨⟨bn,Q⟩,cj,ab⟩,U⟩
      ·exact ⟨rfl,by rw[(HE _ J).out];exact aR.x ⟨q,rfl,hq⟩ ((ae.x ak).drew) Z (by simp)⟩
      have O:=yD cb J.out
      have am:=(lI _ _ _ _ _ J.out).1
      simp only[aX9,aY4] at am
      obtain ⟨g4,au,rfl⟩:=Q.some O
      have u:=af.carry hX D (hdr.wide.up U)
      obtain ⟨y4,ck⟩:=lU u.at_ 5 (Value.slice ao s.leave.length cap) rfl
      have bq:=aB u.at_
      have ci:=ab.lt
      have al:B≤ai.heap.size:=aO6 Z (hdr.wide.up U).size))
 all_goals
  go_wp2_with (go_at_call 101;refine (cD be ⟨#[59]⟩ fE rfl (by decide)).mono ?_;rintro I w7 h7;rcases h7.cases with ⟨f,aj,q,rfl,hq⟩|⟨_,v7,aj,rfl,⟨rfl,cg⟩,ap⟩;(· exact ⟨rfl,by rw[(cf _ _ _ J (sY aj)).out];exact aR.x ⟨q,rfl,hq⟩ an (by simp;have:=ad.size;omega) (by simp)⟩))
  go_ret
  rw[(HO _ _ _ J (qL aj)).out]
  exact ⟨_,rfl,⟨rfl,by omega,⟨by (show s.enter.length≤j4+1);omega,by (show s.during.length≤j4+1);omega,by simp;omega,by (show s.ways.length≤j4+1);omega,by (show s.regions.length≤j4+1);omega⟩,cg,⟨_,_,_,_,_,_,_,_,_,_,_,bu.carry hX D ap⟩⟩,an.trans (ap.x (by simp;have:=ad.size;omega))⟩
def Region (C:dV) (k:Nat):Prop:=∀(w:World) (i c ins:Nat),ins+k=6->PS C w i c ins 0->Calls prog 110 #[.pointer (some ⟨C.rb,0,none⟩)] w (vU C (fun x v w'=>aM (Ge w.heap.size) w' k x.1 v/\PS C w' x.2.2 x.2.1 ins 0) w (aW C.L k c i))
theorem aM.shape {A:Nat->Prop}{w:World}{k:Nat}{l:List (St k)}{v:Value}(h:aM A w k l v):∃ao n cap,v=.slice ao n cap:=by
 cases k with
 | zero=>exact ⟨none,0,0,h.2⟩
 | succ k=>
  obtain ⟨j,c,_⟩:=h
  obtain ⟨ao,cap,rfl⟩:=aP c.1
  exact ⟨ao,_,cap,rfl⟩
theorem aO2 (w:World) (a:Value) (t:TypeId):∀j u,[a][j]?=some u->(w.alloc (.cells #[a] t)).cell? ((⟨w.heap.size,0,none⟩:Addr).add j)=some u:=by
 intro j u c
 match j,c with
 | 0,c=>simp at c;subst c;simp[Addr.add]
 | j+1,c=>simp at c
theorem O3 {C:dV}{k B sb ins i c:Nat}{w:World}{s:cF (St k)}(h:PS C w i c ins 0) (hE:Db C B sb w) (hS:X9 k B sb w s) (hb:Bd i s) (hR:Region C k) (hk:ins+k=6) (bf:∀c i l c' j,aW C.L k c i=.ok (l,c',j)->i<j) (hw:tx C.L i=dL):Calls prog 196 #[.pointer (some ⟨C.rb,0,none⟩),.pointer (some ⟨sb,0,none⟩)] w (lS B [C.rb,sb] (mU C k B sb ins i c s) w (Px.eF C.L (St k) (aW C.L k) s c i)):=by
 obtain ⟨i0,hi,bg,bi,bc⟩:=aZ1 Tryz.info174
 obtain ⟨e,d,l,p,y,r,xe,xd,xl,xy,xr,hS⟩:=hS
 have bq:=h.wf.len
 have bz:=h.lt
 have ca:=hb.e
 have br:=hb.d
 have bo:=hb.l
 have bw:=hb.y
 have bv:=hb.r
 obtain ⟨ax,au,an,ae⟩:=hE
 have O:sb∉[C.rb]:=by simp;omega
 have hX:∀x∈[C.rb],x<B:=by simp;omega
 obtain ⟨tb,ak⟩:∃tb:ByteArray,Hid (bs tb=tx C.L i):=⟨⟨(tx C.L i).toArray⟩,rfl⟩
 have ba:w.ownsRow B 174 1 r s.regions.length xr:=hS.good.own (dW k s.regions r xr) (by simp[aZ])
 obtain ⟨ao,cap,rfl⟩:=aP ba
 have HL:Hid (cZ (bs tb)=none):=by rw[Hid,ak.out,hw];decide
 have HY:Hid _:=hw
 have HE:∀f,Hid (aW C.L k c (i+1)=.error f)->Hid (Px.eF C.L (St k) (aW C.L k) s c i=.error f):=fun f hr=>by rw[Hid,Px.eF,hw,show cZ dL=none from by decide];simp only;rw[if_pos trivial,hr.out]
 have HO:∀l c' j,Hid (aW C.L k c (i+1)=.ok (l,c',j))->Hid (Px.eF C.L (St k) (aW C.L k) s c i=.ok (some ({ s with regions:=s.regions++[l] },c',j))):=fun l c' j hr=>by rw[Hid,Px.eF,hw,show cZ dL=none from by decide];simp only;rw[if_pos trivial,hr.out]
 clear hw
 have T0:Hid True:=trivial
 have T1:Hid True:=trivial
 go_enter Tryz.func196,Tryz.ntmps196
 go_wp2_with (first
  | (go_at_call 106;refine (eI h tb ak).mono ?_;rintro U w1 ⟨rfl,al,aw⟩)
  | (go_at_call 223;refine (jL al tb _ HL).mono ?_;rintro U w2 ⟨rfl,az⟩;obtain rfl:=az.symm;rw[rL])
  | (go_at_call 109;clear T0;refine (dM al ⟨#[114,101,103,105,111,110]⟩ HY.out (by decide)).mono ?_;rintro U w2 ⟨rfl,bb,av⟩))
 have aa:=(hS.carry (X:=[]) (by simp) (by simp) aw).carry hX O av
 have ag:=((aw.wide (X:=[C.rb])).up av)
 have Z:=aO6 ae ag.size
 have hdr:Fr w2.heap.size [] w2 w2.drew:=(Fr.refl _ _ _).drew
 have ar:=bb.same hdr
 obtain ⟨y2,-⟩:=lU aa.at_ 8 (Value.slice ao s.regions.length cap) rfl
 go_region_law
  (first
   | (refine step_append_lies _ (by rfl) _ _ _ (by rfl) B 174 i0 _ 1 24 Tryz.underlying45 hi bg bi bc rfl (by omega) (Value.slice ao s.regions.length cap) s.regions.length xr (by rfl) (I.good.own (dW k s.regions _ xr) (by simp[aZ]))
         ⟨D.heap.size,0,none⟩ 1 1 [.slice af n4 J] (by rfl) (by rfl) (aO2 D _ 174) (by intro u hu;simp at hu;subst hu;rfl)
         (by omega) (by unfold maxLen;omega) (by omega) (by simp;omega) (D.heap.size+1) (by simp) ?_
      intro gg bm ac ab n bh bk
      have be:=SU.grow_regions (a:=a4) (u:=.slice af n4 J) I au Z aa.lts ⟨rfl,aM.carry (bA (X:=[]) (by simp) aj) k _ _ am⟩ (by rw[aO9];exact ab) n (by rcases bh with U|U;exact .inl U.symm;exact .inr (by rw[U];simp[Value.ownBlock]))
      have ay:Fr B [C.rb,sb] w ac:=((((ag.x ae).trans ((hdr.wide.up Q).x Z)).alloc ap _).grown n (by simp;omega) (fun g hg=>.inl ((I.good.own (dW k s.regions _ xr) (by simp[aZ])).lt g hg).1))
      have ah:PS C ac j4 c4 ins 0:=ai.low ax (((Fr.refl B [] D).alloc ap _).grown n (by simp;omega) (fun g hg=>.inl ((I.good.own (dW k s.regions _ xr) (by simp[aZ])).lt g hg).1))
      have bj:ac.heap[sb]?=some (.cells (rA s.name s.first s.last e d l p y (Value.slice ao s.regions.length cap)) 223 (0,0)):=by
       rw[n.block sb (by simp;omega) (fun U=>by have:=((I.good.own (dW k s.regions (Value.slice ao s.regions.length cap) xr) (by simp[aZ])).lt sb U.symm).1;omega)];exact I.at_
      obtain ⟨y5,cb⟩:=lU bj 8 (Value.slice ao s.regions.length cap) rfl)
   | (go_simp
      go_at_call 110
      refine (hR _ (i+1) c ins hk ar).mono ?_
      rintro U D h4
      rcases h4.cases with ⟨f,Y,q,rfl,hq⟩|⟨⟨a4,c4,j4⟩,v4,Y,rfl,⟨am,ai⟩,Q⟩
      ·exact ⟨rfl,by rw[(HE _ Y).out];exact aR.x ⟨q,rfl,hq⟩ ((ag.x ae).drew) Z (by simp)⟩
      obtain ⟨af,n4,J,rfl⟩:=aM.shape am
      have bu:=bf _ _ _ _ _ Y.out
      have ad:=aa.carry hX O (hdr.wide.up Q)
      obtain ⟨y4,bn⟩:=lU ad.at_ 8 (Value.slice ao s.regions.length cap) rfl
      have bp:=aB ad.at_
      have ap:B≤D.heap.size:=aO6 Z (hdr.wide.up Q).size
      have aj:Fr D.heap.size [] D (D.alloc (.cells #[.slice af n4 J] 174)):=(Fr.refl _ _ _).alloc (aO4 _) _
      have I:=ad.carry (X:=[]) (by simp) (by simp) aj))
 all_goals
  go_wp2_with fail
  go_ret
  rw[(HO _ _ _ Y).out]
  exact ⟨_,rfl,⟨rfl,by omega,⟨by (show s.enter.length≤j4);omega,by (show s.during.length≤j4);omega,by (show s.leave.length≤j4);omega,by (show s.ways.length≤j4);omega,by simp;omega⟩,ah.put an _ _,⟨_,_,_,_,_,_,_,_,_,_,_,be⟩⟩,ay.setCell (.inr (by simp)) _⟩
theorem Ej {C:dV}{k B sb ins i c:Nat}{w:World}{s:cF (St k)}{ad:Nat->Nat->Except F (List (St k)×Nat×Nat)}(h:PS C w i c ins 0) (hE:Db C B sb w) (hS:X9 k B sb w s) (hb:Bd i s) (j:tx C.L i=dB) (Z:s.rests≠.nil):Calls prog 196 #[.pointer (some ⟨C.rb,0,none⟩),.pointer (some ⟨sb,0,none⟩)] w (lS B [C.rb,sb] (mU C k B sb ins i c s) w (Px.eF C.L (St k) ad s c i)):=by
 obtain ⟨e,d,l,p,y,r,xe,xd,xl,xy,xr,hS⟩:=hS
 have ay:=h.wf.len
 have bc:=h.lt
 have be:=hb.e
 have az:=hb.d
 have ax:=hb.l
 have bb:=hb.y
 have ba:=hb.r
 obtain ⟨aw,av,au,ac⟩:=hE
 have I:sb∉[C.rb]:=by simp;omega
 have hX:∀x∈[C.rb],x<B:=by simp;omega
 obtain ⟨tb,aa⟩:∃tb:ByteArray,Hid (bs tb=tx C.L i):=⟨⟨(tx C.L i).toArray⟩,rfl⟩
 have HL:Hid (cZ (bs tb)=none):=by rw[Hid,aa.out,j];decide
 have HY:Hid _:=j
 have ag:Hid (tx C.L i≠bs ⟨#[114,101,103,105,111,110]⟩):=by rw[Hid,j];decide
 have an:Hid (tx C.L i≠bs ⟨#[101,110,116,114,121]⟩):=by rw[Hid,j];decide
 have ak:Hid (tx C.L i≠bs ⟨#[100,117,114,105,110,103]⟩):=by rw[Hid,j];decide
 have ao:Hid (tx C.L i≠bs ⟨#[101,120,105,116]⟩):=by rw[Hid,j];decide
 have J:jR (sH B (aZ k s e d l p y r xe xd xl xy xr)) w s.rests p:=hS.good.has (kP s.rests p) (by simp[aZ])
 obtain ⟨gp,ar⟩:∃gp,p=.pointer (some gp):=by
  cases hr:s.rests with
  | nil=>exact absurd hr Z
  | node b o a l r=>rw[hr] at J;obtain ⟨g,lv,rv,ap,_⟩:=J;exact ⟨_,ap⟩
 have HO:Hid (Px.eF C.L (St k) ad s c i=.error (9,pl C.L (i+1))):=by
  rw[Hid,Px.eF,j,show cZ dB=none from by decide];simp only;rw[if_neg (show dB≠dL by decide),if_neg (show dB≠fW by decide),if_neg (show dB≠eM by decide),if_neg (show dB≠jN by decide),if_pos trivial]
  cases hr:s.rests with
  | nil=>exact absurd hr Z
  | node b o a l r=>rfl
 clear J
 subst ar
 clear j Z
 have T0:Hid True:=trivial
 have T1:Hid True:=trivial
 have T2:Hid True:=trivial
 have T3:Hid True:=trivial
 have T4:Hid True:=trivial
 have T5:Hid True:=trivial
 go_enter Tryz.func196,Tryz.ntmps196
 go_wp2_with (first
  | (go_at_call 106;refine (eI h tb aa).mono ?_;rintro n w1 ⟨rfl,ab,Y⟩)
  | (go_at_call 223;refine (jL ab tb _ HL).mono ?_;rintro n w2 ⟨rfl,af⟩;obtain rfl:=af.symm;rw[rL])
  | (go_at_call 109;clear T0;refine (cN ab ⟨#[114,101,103,105,111,110]⟩ ag.out).mono ?_;rintro n w2 ⟨rfl,ai,U⟩)
  | (go_at_call 109;clear T1;refine (cN ai ⟨#[101,110,116,114,121]⟩ an.out).mono ?_;rintro n w3 ⟨rfl,ah,D⟩)
  | (go_at_call 109;clear T2;refine (cN ah ⟨#[100,117,114,105,110,103]⟩ ak.out).mono ?_;rintro n w4 ⟨rfl,aj,Q⟩)
  | (go_at_call 109;clear T3;refine (cN aj ⟨#[101,120,105,116]⟩ ao.out).mono ?_;rintro n w5 ⟨rfl,al,O⟩)
  | (go_at_call 109;clear T4;refine (dM al ⟨#[115,117,115,112,101,110,100]⟩ HY.out (by decide)).mono ?_;rintro n w6 ⟨rfl,ae,u⟩;have am:=(((((hS.carry (X:=[]) (by simp) (by simp) Y).carry (X:=[]) (by simp) (by simp) U).carry (X:=[]) (by simp) (by simp) D).carry (X:=[]) (by simp) (by simp) Q).carry (X:=[]) (by simp) (by simp) O).carry hX I u;obtain ⟨y2,-⟩:=lU am.at_ 6 (Value.pointer (some gp)) rfl)
  | (go_at_call 111;refine (gX ae 9).mono ?_;rintro n w7 ⟨q,rfl,hq⟩;exact ⟨rfl,by rw[HO.out];exact aR.x ⟨q,rfl,hq⟩ (((((((Y.wide (X:=[C.rb])).up U.wide).up D.wide).up Q.wide).up O.wide).up u).x ac) (aO6 ac ((((((Y.wide (X:=[C.rb])).up U.wide).up D.wide).up Q.wide).up O.wide).up u).size) (by simp)⟩))
theorem Ek {C:dV}{k B sb ins i c:Nat}{w:World}{s:cF (St k)}{J:Nat->Nat->Except F (List (St k)×Nat×Nat)}(h:PS C w i c ins 0) (hE:Db C B sb w) (hS:X9 k B sb w s) (hb:Bd i s) (I:tx C.L i=dB) (D:s.rests=.nil):Calls prog 196 #[.pointer (some ⟨C.rb,0,none⟩),.pointer (some ⟨sb,0,none⟩)] w (lS B [C.rb,sb] (mU C k B sb ins i c s) w (Px.eF C.L (St k) J s c i)):=by
 obtain ⟨e,d,l,p,y,r,xe,xd,xl,xy,xr,hS⟩:=hS
 have bp:=h.wf.len
 have bz:=h.lt
 have ca:=hb.e
 have bq:=hb.d
 have bo:=hb.l
 have bw:=hb.y
 have bv:=hb.r
 obtain ⟨bn,ao,al,Z⟩:=hE
 have n:sb∉[C.rb]:=by simp;omega
 have hX:∀x∈[C.rb],x<B:=by simp;omega
 obtain ⟨tb,af⟩:∃tb:ByteArray,Hid (bs tb=tx C.L i):=⟨⟨(tx C.L i).toArray⟩,rfl⟩
 have HL:Hid (cZ (bs tb)=none):=by rw[Hid,af.out,I];decide
 have HY:Hid _:=I
 have ax:Hid (tx C.L i≠bs ⟨#[114,101,103,105,111,110]⟩):=by rw[Hid,I];decide
 have bg:Hid (tx C.L i≠bs ⟨#[101,110,116,114,121]⟩):=by rw[Hid,I];decide
 have be:Hid (tx C.L i≠bs ⟨#[100,117,114,105,110,103]⟩):=by rw[Hid,I];decide
 have bh:Hid (tx C.L i≠bs ⟨#[101,120,105,116]⟩):=by rw[Hid,I];decide
 have Y:jR (sH B (aZ k s e d l p y r xe xd xl xy xr)) w s.rests p:=hS.good.has (kP s.rests p) (by simp[aZ])
 have bk:p=.pointer none:=by rw[D] at Y;exact Y
 clear Y
 subst bk
 have HE:∀f,Hid (eP C.L (i+1)=.error f)->Hid (Px.eF C.L (St k) J s c i=.error f):=fun f hr=>by rw[Hid,Px.eF,I,show cZ dB=none from by decide];simp only;rw[if_neg (show dB≠dL by decide),if_neg (show dB≠fW by decide),if_neg (show dB≠eM by decide),if_neg (show dB≠jN by decide),if_pos trivial,D];simp only;rw[hr.out]
 have bi:∀t j f,Hid (eP C.L (i+1)=.ok (t,j))->pD C.L j=.error f->Hid (Px.eF C.L (St k) J s c i=.error f):=fun t j f hr hs=>by rw[Hid,Px.eF,I,show cZ dB=none from by decide];simp only;rw[if_neg (show dB≠dL by decide),if_neg (show dB≠fW by decide),if_neg (show dB≠eM by decide),if_neg (show dB≠jN by decide),if_pos trivial,D];simp only;rw[hr.out];simp only;rw[hs]
 have HO:∀t j m,Hid (eP C.L (i+1)=.ok (t,j))->pD C.L j=.ok m->Hid (Px.eF C.L (St k) J s c i=.ok (some ({ s with rests:=t },c,m))):=fun t j m hr hs=>by rw[Hid,Px.eF,I,show cZ dB=none from by decide];simp only;rw[if_neg (show dB≠dL by decide),if_neg (show dB≠fW by decide),if_neg (show dB≠eM by decide),if_neg (show dB≠jN by decide),if_pos trivial,D];simp only;rw[hr.out];simp only;rw[hs]
 clear I D
 have T0:Hid True:=trivial
 have T1:Hid True:=trivial
 have T2:Hid True:=trivial
 have T3:Hid True:=trivial
 have T4:Hid True:=trivial
 have T5:Hid True:=trivial
 go_enter Tryz.func196,Tryz.ntmps196
 go_wp2_with (first
  | (go_at_call 106;refine (eI h tb af).mono ?_;rintro O w1 ⟨rfl,ag,ar⟩)
  | (go_at_call 223;refine (jL ag tb _ HL).mono ?_;rintro O w2 ⟨rfl,aw⟩;obtain rfl:=aw.symm;rw[rL])
  | (go_at_call 109;clear T0;refine (cN ag ⟨#[114,101,103,105,111,110]⟩ ax.out).mono ?_;rintro O w2 ⟨rfl,az,ap⟩)
  | (go_at_call 109;clear T1;refine (cN az ⟨#[101,110,116,114,121]⟩ bg.out).mono ?_;rintro O w3 ⟨rfl,ay,ai⟩)
  | (go_at_call 109;clear T2;refine (cN ay ⟨#[100,117,114,105,110,103]⟩ be.out).mono ?_;rintro O w4 ⟨rfl,bb,an⟩)
  | (go_at_call 109;clear T3;refine (cN bb ⟨#[101,120,105,116]⟩ bh.out).mono ?_;rintro O w5 ⟨rfl,bf,am⟩)
  | (go_at_call 109;clear T4;refine (dM bf ⟨#[115,117,115,112,101,110,100]⟩ HY.out (by decide)).mono ?_;rintro O w6 ⟨rfl,av,ah⟩;have aa:=(((((hS.carry (X:=[]) (by simp) (by simp) ar).carry (X:=[]) (by simp) (by simp) ap).carry (X:=[]) (by simp) (by simp) ai).carry (X:=[]) (by simp) (by simp) an).carry (X:=[]) (by simp) (by simp) am).carry hX n ah;obtain ⟨y2,-⟩:=lU aa.at_ 6 (Value.pointer none) rfl;have Q:=((((((ar.wide (X:=[C.rb])).up ap.wide).up ai.wide).up an.wide).up am.wide).up ah);have ac:=aO6 Z Q.size)
  | (go_at_call 226;refine (lN av).mono ?_;rintro O w7 h7;rcases h7.cases with ⟨f,u,q,rfl,hq⟩|⟨⟨t7,j7⟩,v7,u,rfl,⟨ae,bj⟩,U⟩;(· exact ⟨rfl,by rw[(HE _ u).out];exact aR.x ⟨q,rfl,hq⟩ (Q.x Z) ac (by simp)⟩);obtain ⟨u7,rfl⟩:=ae.ptr;have ak:=aa.carry hX n U;obtain ⟨y7,z7⟩:=lU ak.at_ 6 (Value.pointer none) rfl;have au:=SU.grow_rests ak ao ac aa.lts ae;have br:=qV u;have bc:=bj.put al 6 (.pointer u7);have ba:Fr B [C.rb,sb] w w7:=(Q.x Z).trans (U.x ac);have bu:=U.size;have aj:=ba.setCell (p:=⟨sb,6,none⟩) (.inr (by simp)) (.pointer u7))
  | (go_at_call 101;refine (cD bc ⟨#[59]⟩ fE rfl (by decide)).mono ?_;rintro O w9 h9;rcases h9.cases with ⟨f,ab,q,rfl,hq⟩|⟨_,v9,ab,rfl,⟨rfl,bm⟩,ad⟩;(· exact ⟨rfl,by rw[(bi _ _ _ u (sY ab)).out];exact aR.x ⟨q,rfl,hq⟩ aj (by simp;omega) (by simp)⟩)))
 go_ret
 rw[(HO _ _ _ u (qL ab)).out]
 exact ⟨_,rfl,⟨rfl,by omega,⟨by (show s.enter.length≤j7+1);omega,by (show s.during.length≤j7+1);omega,by (show s.leave.length≤j7+1);omega,by (show s.ways.length≤j7+1);omega,by (show s.regions.length≤j7+1);omega⟩,bm,⟨_,_,_,_,_,_,_,_,_,_,_,au.carry hX n ad⟩⟩,aj.trans (ad.x (by simp;omega))⟩
theorem Kw {C:dV}{k B sb ins i c:Nat}{w:World}{s:cF (St k)}{ad:Nat->Nat->Except F (List (St k)×Nat×Nat)}(h:PS C w i c ins 0) (hE:Db C B sb w) (hS:X9 k B sb w s) (hb:Bd i s) (hl:cZ (tx C.L i)=none) (J:tx C.L i≠dL) (n:tx C.L i≠fW) (I:tx C.L i≠eM) (D:tx C.L i≠jN) (j:tx C.L i≠dB):Calls prog 196 #[.pointer (some ⟨C.rb,0,none⟩),.pointer (some ⟨sb,0,none⟩)] w (lS B [C.rb,sb] (mU C k B sb ins i c s) w (Px.eF C.L (St k) ad s c i)):=by
 obtain ⟨e,d,l,p,y,r,xe,xd,xl,xy,xr,hS⟩:=hS
 have ba:=h.wf.len
 have bb:=h.lt
 have bc:=hb.e
 have be:=hb.d
 have ax:=hb.l
 have az:=hb.y
 have ay:=hb.r
 obtain ⟨aw,av,au,al⟩:=hE
 have u:sb∉[C.rb]:=by simp;omega
 have hX:∀x∈[C.rb],x<B:=by simp;omega
 obtain ⟨tb,ae⟩:∃tb:ByteArray,Hid (bs tb=tx C.L i):=⟨⟨(tx C.L i).toArray⟩,rfl⟩
 have HL:Hid (cZ (bs tb)=none):=by rw[Hid,ae.out];exact hl
 have HO:Hid (Px.eF C.L (St k) ad s c i=.ok none):=by rw[Hid,Px.eF,hl];simp only;rw[if_neg J,if_neg n,if_neg I,if_neg D,if_neg j]
 have ak:Hid _:=J
 have ao:Hid _:=n
 have af:Hid _:=I
 have ap:Hid _:=D
 have ag:Hid _:=j
 clear hl J n I D j
 have T0:Hid True:=trivial
 have T1:Hid True:=trivial
 have T2:Hid True:=trivial
 have T3:Hid True:=trivial
 have T4:Hid True:=trivial
 have T5:Hid True:=trivial
 go_enter Tryz.func196,Tryz.ntmps196
 go_wp2_with (first
  | (go_at_call 106;refine (eI h tb ae).mono ?_;rintro O w1 ⟨rfl,Q,ac⟩)
  | (go_at_call 223;refine (jL Q tb _ HL).mono ?_;rintro O w2 ⟨rfl,aj⟩;obtain rfl:=aj.symm;rw[rL])
  | (go_at_call 109;clear T0;refine (cN Q ⟨#[114,101,103,105,111,110]⟩ ak.out).mono ?_;rintro O w2 ⟨rfl,an,ab⟩)
  | (go_at_call 109;clear T1;refine (cN an ⟨#[101,110,116,114,121]⟩ ao.out).mono ?_;rintro O w3 ⟨rfl,am,Y⟩)
  | (go_at_call 109;clear T2;refine (cN am ⟨#[100,117,114,105,110,103]⟩ af.out).mono ?_;rintro O w4 ⟨rfl,ar,aa⟩)
  | (go_at_call 109;clear T3;refine (cN ar ⟨#[101,120,105,116]⟩ ap.out).mono ?_;rintro O w5 ⟨rfl,ah,Z⟩)
  | (go_at_call 109;clear T4;refine (cN ah ⟨#[115,117,115,112,101,110,100]⟩ ag.out).mono ?_;rintro O w6 ⟨rfl,ai,U⟩))
 go_ret
 rw[HO.out]
 exact ⟨_,rfl,⟨rfl,ai,⟨_,_,_,_,_,_,_,_,_,_,_,(((((hS.carry (X:=[]) (by simp) (by simp) ac).carry (X:=[]) (by simp) (by simp) ab).carry (X:=[]) (by simp) (by simp) Y).carry (X:=[]) (by simp) (by simp) aa).carry (X:=[]) (by simp) (by simp) Z).carry hX u U.wide⟩⟩,((((((ac.wide (X:=[C.rb])).up ab.wide).up Y.wide).up aa.wide).up Z.wide).up U.wide).x al⟩
theorem Qk {C:dV}{k B sb ins i c:Nat}{w:World}{s:cF (St k)}(h:PS C w i c ins 0) (n:Db C B sb w) (u:X9 k B sb w s) (hb:Bd i s) (I:Region C k) (D:ins+k=6) (y:∀c i l c' j,aW C.L k c i=.ok (l,c',j)->i<j):Calls prog 196 #[.pointer (some ⟨C.rb,0,none⟩),.pointer (some ⟨sb,0,none⟩)] w (lS B [C.rb,sb] (mU C k B sb ins i c s) w (Px.eF C.L (St k) (aW C.L k) s c i)):=by
 cases hl:cZ (tx C.L i) with
 | some kd=>exact Qj h n u hb kd hl
 | none=>
  by_cases h0:tx C.L i=dL
  ·exact O3 h n u hb I D y h0
  ·by_cases h1:tx C.L i=fW
   ·exact En h n u hb h1
   ·by_cases h2:tx C.L i=eM
    ·exact Ag h n u hb h2
    ·by_cases h3:tx C.L i=jN
     ·exact El h n u hb h3
     ·by_cases h4:tx C.L i=dB
      ·cases hr:s.rests with
       | nil=>exact Ek h n u hb h4 hr
       | node b o a l r=>exact Ej h n u hb h4 (by rw[hr];simp)
      ·exact Kw h n u hb hl h0 h1 h2 h3 h4
end
section
open Go.RowKit Px
theorem xF {L:List Lx.fQ}{i m:Nat}(h:pD L i=.ok m):i<m:=by
 rw[pD] at h
 split at h
 ·injection h with h;omega
 ·exact absurd h (by simp)
theorem pT (L:List Lx.fQ) (k:bE) (i:Nat):i≤kH L k i:=by unfold kH;split<;>omega
theorem Wr {L:List Lx.fQ}{ρ:Type}{n:Nat->Nat->Except F (List ρ×Nat×Nat)}(u:∀c i l r j,n c i=.ok (l,r,j)->i<j) {s s':cF ρ}{c i r j:Nat}(h:Px.eF L ρ n s c i=.ok (some (s',r,j))):i<j:=by
 rw[Px.eF] at h
 split at h
 ·split at h
  ·exact absurd h (by simp)
  ·rename_i hy
   have:=Ol hy
   injection h with h;injection h with h;injection h with _ h;injection h with _ h;omega
 ·split at h
  ·split at h
   ·exact absurd h (by simp)
   ·rename_i hy
    have:=u _ _ _ _ _ hy
    injection h with h;injection h with h;injection h with _ h;injection h with _ h;omega
  ·split at h
   ·split at h
    ·exact absurd h (by simp)
    ·rename_i hy
     have k:=(lI _ _ _ _ _ hy).1
     simp at k
     split at h
     ·exact absurd h (by simp)
     ·rename_i hm
      have:=xF hm
      injection h with h;injection h with h;injection h with _ h;injection h with _ h;omega
   ·split at h
    ·split at h
     ·exact absurd h (by simp)
     ·rename_i hy
      have k:=(lI _ _ _ _ _ hy).1
      simp at k
      split at h
      ·exact absurd h (by simp)
      ·rename_i hm
       have:=xF hm
       injection h with h;injection h with h;injection h with _ h;injection h with _ h;omega
    ·split at h
     ·split at h
      ·exact absurd h (by simp)
      ·rename_i hy
       have k:=(lI _ _ _ _ _ hy).1
       simp at k
       split at h
       ·exact absurd h (by simp)
       ·rename_i hm
        have:=xF hm
        injection h with h;injection h with h;injection h with _ h;injection h with _ h;omega
     ·split at h
      ·split at h
       ·split at h
        ·exact absurd h (by simp)
        ·rename_i hy
         have k:=qV hy
         split at h
         ·exact absurd h (by simp)
         ·rename_i hm
          have:=xF hm
          injection h with h;injection h with h;injection h with _ h;injection h with _ h;omega
       ·exact absurd h (by simp)
      ·exact absurd h (by simp)
theorem Qi {L:List Lx.fQ}{ρ:Type}{n:Nat->Nat->Except F (List ρ×Nat×Nat)}(r:∀c i l k j,n c i=.ok (l,k,j)->i<j):∀(f:Nat) (s:cF ρ) (c i:Nat) (s':cF ρ) (k j:Nat),parts L ρ n f s c i=.ok (s',k,j)->i≤j:=by
 intro f
 induction f with
 | zero=>intro s c i s' k j h;rw[parts] at h;injection h with h;injection h with _ h;injection h with _ h;omega
 | succ f ih=>
  intro s c i s' k j h
  rw[parts] at h
  split at h
  ·exact absurd h (by simp)
  ·split at h
   ·injection h with h;injection h with _ h;injection h with _ h;omega
   ·exact absurd h (by simp)
  ·rename_i hp
   have y:=Wr r hp
   have u:=ih _ _ _ _ _ _ h
   omega
theorem j9 {L:List Lx.fQ}{ρ:Type}{k:Nat->Nat->Except F (List ρ×Nat×Nat)}(r:∀c i l n j,k c i=.ok (l,n,j)->i<j) {u la:Bool}{c i n j:Nat}{s:cF ρ}(h:cP L ρ k u la c i=.ok (s,n,j)):i<j:=by
 rw[cP] at h
 split at h
 ·split at h
  ·exact absurd h (by simp)
  ·split at h
   ·exact absurd h (by simp)
   ·split at h
    ·injection h with h;injection h with _ h;injection h with _ h;omega
    ·split at h
     ·have:=Qi r _ _ _ _ _ _ _ h;omega
     ·exact absurd h (by simp)
 ·exact absurd h (by simp)
theorem Kf {L:List Lx.fQ}{ρ:Type}{n:Nat->Nat->Except F (List ρ×Nat×Nat)}(s:∀c i l k j,n c i=.ok (l,k,j)->i<j):∀(f:Nat) (l:List (cF ρ)) (c i:Nat) (r:List (cF ρ)) (k j:Nat),states L ρ n f l c i=.ok (r,k,j)->i≤j:=by
 intro f
 induction f with
 | zero=>intro l c i r k j h;rw[states] at h;injection h with h;injection h with _ h;injection h with _ h;omega
 | succ f ih=>
  intro l c i r k j h
  rw[states] at h
  split at h
  ·split at h
   ·exact absurd h (by simp)
   ·rename_i hs
    have D:=j9 s hs
    have u:=ih _ _ _ _ _ _ h
    have I:=pT L dO i
    have y:=pT L iC (kH L dO i)
    omega
  ·split at h
   ·injection h with h;injection h with _ h;injection h with _ h;omega
   ·exact absurd h (by simp)
theorem uW {L:List Lx.fQ}:∀(k c i:Nat) (l:List (St k)) (r j:Nat),aW L k c i=.ok (l,r,j)->i<j:=by
 intro k
 induction k with
 | zero=>intro c i l r j h;rw[aW] at h;exact absurd h (by simp)
 | succ k ih=>
  intro c i l r j h
  have n:(if tx L i=fF then states L (St k) (aW L k) L.length [] c (i+1) else .error (3,pl L i))=.ok (l,r,j):=h
  by_cases ho:tx L i=fF
  ·rw[if_pos ho] at n
   have:=Kf ih _ _ _ _ _ _ _ n;omega
  ·rw[if_neg ho] at n
   exact absurd n (by simp)
end
section
open Go.RowKit Px
theorem Nm {C:dV}{w:World}{i st ins:Nat}{c1 c2:Value}(h:PS C w i st ins 0) (R:Ending->World->Prop) (Inv:Nat->World->Prop) (Fin:World->Prop) (g0:Nat)
    (r:tx C.L i≠fF->∀e w',aR C w (3,pl C.L i) e w'->R e w')
    (c:tx C.L i=fF->∀w1,PS C w1 (i+1) st ins 0->Fr w.heap.size [C.rb] w w1->Inv g0 w1)
    (k:∀g w1,Inv g w1->Calls prog 195 #[c1,c2] w1 fun e w2=>(e=.returned (.bool true)/\∃g',g'<g/\Inv g' w2)\/(e=.returned (.bool false)/\Fin w2)\/(∃ch,e=.panicked ch/\R e w2))
    (s:∀w2,Fin w2->∃j st',PS C w2 j st' ins 0/\(tx C.L j≠jM->∀e w3,aR C w2 (3,pl C.L j) e w3->R e w3)/\(tx C.L j=jM->∀w3,PS C w3 (j+1) st' ins 0->Fr w2.heap.size [C.rb] w2 w3->R (.returned (.tuple #[])) w3)) :
 Calls prog 103 #[.pointer (some ⟨C.rb,0,none⟩),.func (.func 195) #[] #[c1,c2]] w R:=by
 have HE:Hid _:=r
 have HS:Hid _:=c
 have HR:Hid _:=k
 have HF:Hid _:=s
 clear r c k s
 go_enter Tryz.func103,Tryz.ntmps103
 go_wp2_with (go_at_call 101;refine (cD h ⟨#[123]⟩ fF rfl (by decide)).mono ?_;rintro e w1 h1;rcases h1.cases with ⟨f,l,q,rfl,O⟩|⟨_,v1,l,rfl,⟨rfl,D⟩,ab⟩;(· exact ⟨rfl,HE.out (aV l).1 _ _ (by rw[<-(aV l).2];exact ⟨q,rfl,O⟩)⟩))
 have hI:Hid _:=HS.out (bJ l) w1 D ab
 go_loopg [] g0 (fun g wr=>Hid (Inv g wr))
 case atStart=>exact hI
 case round=>
  go_wp2_with fail
  refine (HR.out _ _ hrel.out).mono ?_
  rintro e w2 (⟨rfl,g',J,Q⟩|⟨rfl,aa⟩|⟨ch,rfl,hR⟩)
  ·go_wp2_with fail
   go_roundg g'
   case measure=>exact J
   case rel=>exact Q
  ·obtain ⟨j,st',X,y,u⟩:=HF.out w2 aa
   have Y:Hid _:=y
   have Z:Hid _:=u
   clear y u
   go_wp2_with (go_at_call 101;refine (cD X ⟨#[125]⟩ jM rfl (by decide)).mono ?_;rintro e w3 h3;rcases h3.cases with ⟨f,n,q,rfl,O⟩|⟨_,v3,n,rfl,⟨rfl,U⟩,I⟩;(· exact ⟨rfl,Y.out (aV n).1 _ _ (by rw[<-(aV n).2];exact ⟨q,rfl,O⟩)⟩))
   go_end0
   exact Z.out (bJ n) w3 U I
  ·exact ⟨rfl,hR⟩
end
section
open Go.RowKit Px
theorem lS.cases {B:Nat}{X:List Nat}{α:Type}{ok:α->Value->World->Prop}{w:World}{r:Except F α}{e:Ending}{w':World}(h:lS B X ok w r e w'):(∃f,Hid (r=.error f)/\iV B X w f e w')\/(∃a v,Hid (r=.ok a)/\e=.returned v/\ok a v w'/\Fr B X w w'):=by
 cases r with
 | error f=>exact .inl ⟨f,rfl,h⟩
 | ok a=>obtain ⟨v,c,k,j⟩:=h;exact .inr ⟨a,v,rfl,c,k,j⟩
theorem iV.up {B:Nat}{X:List Nat}{w w1 w':World}{f:F}{e:Ending}(h:iV B X w1 f e w') (c:Fr B X w w1):iV B X w f e w':=by
 obtain ⟨q,j,l,k,n⟩:=h
 exact ⟨q,j,l,aO6 c.size k,c.trans n⟩
structure wX (C:dV) (B sb ba bb:Nat) (w:World):Prop where
 a:w.cell? ⟨ba,0,none⟩=some (.pointer (some ⟨C.rb,0,none⟩))
 b:w.cell? ⟨bb,0,none⟩=some (.pointer (some ⟨sb,0,none⟩))
 la:ba<B
 lb:bb<B
 na:ba∉[C.rb,sb]
 nb:bb∉[C.rb,sb]
theorem wX.carry {C:dV}{B sb ba bb:Nat}{w w':World}(h:wX C B sb ba bb w) (hf:Fr B [C.rb,sb] w w'):wX C B sb ba bb w':=
 ⟨by rw[hf.cell (p:=⟨ba,0,none⟩) h.la h.na];exact h.a,by rw[hf.cell (p:=⟨bb,0,none⟩) h.lb h.nb];exact h.b,h.la,h.lb,h.na,h.nb⟩
theorem Ds {C:dV}{k B sb ins i c n l:Nat}{w:World}{s:cF (St k)}(h:PS C w i c ins 0) (u:Db C B sb w) (O:X9 k B sb w s) (hb:Bd i s) (Q:Region C k) (D:ins+k=6) (hx:wX C B sb n l w) :
 Calls prog 195 #[.pointer (some ⟨n,0,none⟩),.pointer (some ⟨l,0,none⟩)] w (lS B [C.rb,sb] (mU C k B sb ins i c s) w (Px.eF C.L (St k) (aW C.L k) s c i)):=by
 have Y:=hx.a
 have X:=hx.b
 have r:=Qk h u O hb Q D (uW k)
 go_enter Tryz.func195,Tryz.ntmps195
 go_wp2_with (go_at_call 196;refine r.mono ?_;rintro e w1 U;rcases U.cases with ⟨f,j,q,rfl,I⟩|⟨a,v,j,rfl,J,y⟩;(· exact ⟨rfl,by rw[j.out];exact ⟨q,rfl,I⟩⟩))
 go_ret
 rw[j.out]
 exact ⟨v,rfl,J,y⟩
def Uy (C:dV) (k B sb ins:Nat) (x:cF (St k)×Nat×Nat) (v:Value) (w':World):Prop:=v=.tuple #[]/\PS C w' x.2.2 x.2.1 ins 0/\X9 k B sb w' x.1
theorem Db.carry {C:dV}{B sb:Nat}{w w':World}(h:Db C B sb w) (hs:w.heap.size≤w'.heap.size):Db C B sb w':=⟨h.hrb,h.hsb,h.hne,aO6 h.hB hs⟩
theorem Co {C:dV}{k B sb ins i c ba bb:Nat}{w:World}{s:cF (St k)}(h:PS C w i c ins 0) (hE:Db C B sb w) (hS:X9 k B sb w s) (hb:Bd i s) (hR:Region C k) (hk:ins+k=6) (hx:wX C B sb ba bb w) :
 Calls prog 103 #[.pointer (some ⟨C.rb,0,none⟩),.func (.func 195) #[] #[.pointer (some ⟨ba,0,none⟩),.pointer (some ⟨bb,0,none⟩)]] w
     (lS B [C.rb,sb] (Uy C k B sb ins) w (if tx C.L i=fF then parts C.L (St k) (aW C.L k) C.L.length s c (i+1) else .error (3,pl C.L i))):=by
 obtain ⟨Q,J⟩:=gQx ((if tx C.L i=fF then parts C.L (St k) (aW C.L k) C.L.length s c (i+1) else .error (3,pl C.L i)))
 rw[<-J]
 have hX:∀x∈[C.rb],x<B:=by have:=hE.hrb;simp;omega
 have ac:sb∉[C.rb]:=by have:=hE.hne;simp;omega
 have U:∀{w1 w2:World}{D:cF (St k)},X9 k B sb w1 D->Fr w1.heap.size [C.rb] w1 w2->X9 k B sb w2 D:=by
  rintro w1 w2 D ⟨e,d,l,p,y,r,xe,xd,xl,xy,xr,hs⟩ hf
  exact ⟨e,d,l,p,y,r,xe,xd,xl,xy,xr,hs.carry hX ac hf⟩
 refine Nm h _ (fun g w1=>∃(D:cF (St k)) (c1 j:Nat),Q=parts C.L (St k) (aW C.L k) g D c1 j/\C.L.length≤g+j/\Bd j D/\PS C w1 j c1 ins 0/\X9 k B sb w1 D/\Fr B [C.rb,sb] w w1)
  (fun w2=>∃(D:cF (St k)) (c1 j:Nat),Q=(if tx C.L j=jM then .ok (D,c1,j+1) else .error (3,pl C.L j))/\PS C w2 j c1 ins 0/\X9 k B sb w2 D/\Fr B [C.rb,sb] w w2) C.L.length ?_ ?_ ?_ ?_
 ·intro hn e w' ht
  rw[J,if_neg hn]
  exact ht.x (Fr.refl _ _ _) hE.hB (by simp)
 ·intro ho w1 u n
  refine ⟨s,c,i+1,by rw[J,if_pos ho],by omega,⟨by have:=hb.e;omega,by have:=hb.d;omega,by have:=hb.l;omega,by have:=hb.y;omega,by have:=hb.r;omega⟩,u,U hS n,n.x hE.hB⟩
 ·rintro g w1 ⟨D,c1,j,I,hg,af,u,X,n⟩
  obtain ⟨g',rfl⟩:∃g',g=g'+1:=⟨g-1,by have:=u.lt;omega⟩
  refine (Ds u (hE.carry n.size) X af hR hk (hx.carry n)).mono ?_
  rintro e w2 h2
  rcases h2.cases with ⟨f,O,ht⟩|⟨o,v,O,rfl,hv,ab⟩
  ·refine .inr (.inr ?_)
   obtain ⟨q,rfl,hq⟩:=ht
   refine ⟨_,rfl,?_⟩
   rw[I,parts,O.out]
   exact iV.up ⟨q,rfl,hq⟩ n
  ·cases o with
   | none=>
    obtain ⟨rfl,Y,Z⟩:=hv
    exact .inr (.inl ⟨rfl,D,c1,j,by rw[I,parts,O.out],Y,Z,n.trans ab⟩)
   | some x=>
    obtain ⟨s2,c2,j2⟩:=x
    obtain ⟨rfl,ag,ae,Y,Z⟩:=hv
    exact .inl ⟨rfl,g',by omega,s2,c2,j2,by rw[I,parts,O.out],by omega,ae,Y,Z,n.trans ab⟩
 ·rintro w2 ⟨D,c1,j,I,u,X,n⟩
  refine ⟨j,c1,u,fun hn e w3 ht=>?_,fun ho w3 ad aa=>?_⟩
  ·rw[I,if_neg hn]
   exact ht.x n (aO6 hE.hB n.size) (by simp)
  ·rw[I,if_pos ho]
   exact ⟨_,rfl,⟨rfl,ad,U X aa⟩,n.trans (aa.x (aO6 hE.hB n.size))⟩
theorem SU.start {k B sb:Nat}{w:World}{nm:bE}{c la:Bool}(h:w.heap[sb]?=some (.cells (rA nm c la (.slice none 0 0) (.slice none 0 0) (.slice none 0 0) (.pointer none) (.slice none 0 0) (.slice none 0 0)) 223 (0,0))) :
    SU k B sb w ⟨nm,c,la,[],[],[],.nil,[],[]⟩ (.slice none 0 0) (.slice none 0 0) (.slice none 0 0) (.pointer none) (.slice none 0 0) (.slice none 0 0) [] [] [] [] []:=by
 refine ⟨h,⟨fun x hx=>?_,?_,fun x hx=>?_⟩⟩
 ·simp only[aZ,aW5,List.not_mem_nil,or_false] at hx
  rcases hx with rfl|rfl|rfl|rfl|rfl|rfl<;>exact aY7 _ _ _ _
 ·simp[aZ,cE,kP,iL,dW,Value.ownBlock]
 ·simp only[aZ,aW5,List.not_mem_nil,or_false] at hx
  rcases hx with rfl|rfl|rfl|rfl|rfl|rfl<;>rfl
end
end Go.Proofs.YthieaobjdpfcoaaGreatDoor
