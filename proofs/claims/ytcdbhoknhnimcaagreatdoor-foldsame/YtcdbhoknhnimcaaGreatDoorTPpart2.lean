import Derived.Test.YtcdbhoknhnimcaaGreatDoorTPpart
set_option maxRecDepth 100000
set_option maxHeartbeats 8000000
namespace Go.Proofs.YtcdbhoknhnimcaaGreatDoor
open Go.RowKit Px
theorem Cg {C:dT}{k B sb ins i c:Nat}{w:World}{s:cC (St k)}{reg:Nat->Nat->Except F (List (St k)×Nat×Nat)}(h:PS C w i c ins 0) (hE:Ay C B sb w) (hS:J8 k B sb w s) (hb:Bd i s) (hw:tx C.L i=fR):Calls Tryz.prog 224 #[.pointer (some ⟨C.rb,0,none⟩),.pointer (some ⟨sb,0,none⟩)] w (lE B [C.rb,sb] (mH C k B sb ins i c s) w (Px.eA C.L (St k) reg s c i)):=by
 obtain ⟨i0,hi,hz0,hz1,hz2⟩:=info_parts Tryz.info325
 obtain ⟨e,d,l,p,y,r,xe,xd,xl,xy,xr,hS⟩:=hS
 have hl6:=h.wf.len
 have hil:=h.lt
 have hbe:=hb.e
 have hbd:=hb.d
 have hbl:=hb.l
 have hby:=hb.y
 have hbr:=hb.r
 obtain ⟨hErb,hEsb,hEne,hEB⟩:=hE
 have hEne':sb∉[C.rb]:=by simp;omega
 have hX:∀x∈[C.rb],x<B:=by simp;omega
 obtain ⟨tb,htb⟩:∃tb:ByteArray,Hid (bs tb=tx C.L i):=⟨⟨(tx C.L i).toArray⟩,rfl⟩
 have hoy:w.ownsRow B 325 2 e s.enter.length xe:=hS.good.own (cA s.enter e xe) (by simp[aW])
 obtain ⟨ao,cap,rfl⟩:=aJ hoy
 have HL:Hid (cX (bs tb)=none):=by rw[Hid,htb.out,hw];decide
 have HY:Hid _:=hw
 have HN0:Hid (tx C.L i≠bs ⟨#[114,101,103,105,111,110]⟩):=by rw[Hid,hw];decide
 have HE:∀f,Hid (sets C.L C.L.length [] (i+1)=.error f)->Hid (Px.eA C.L (St k) reg s c i=.error f):=fun f hr=>by rw[Hid,Px.eA,hw,show cX fR=none from by decide];simp only;rw[if_neg (show fR≠dL by decide),if_pos trivial,hr.out]
 have HE2:∀l j f,Hid (sets C.L C.L.length [] (i+1)=.ok (l,j))->oH C.L j=.error f->Hid (Px.eA C.L (St k) reg s c i=.error f):=fun l j f hr hs=>by rw[Hid,Px.eA,hw,show cX fR=none from by decide];simp only;rw[if_neg (show fR≠dL by decide),if_pos trivial,hr.out];simp only;rw[hs]
 have HO:∀l j m,Hid (sets C.L C.L.length [] (i+1)=.ok (l,j))->oH C.L j=.ok m->Hid (Px.eA C.L (St k) reg s c i=.ok (some ({ s with enter:=s.enter++l },c,m))):=fun l j m hr hs=>by rw[Hid,Px.eA,hw,show cX fR=none from by decide];simp only;rw[if_neg (show fR≠dL by decide),if_pos trivial,hr.out];simp only;rw[hs]
 have hLp:=h.wf.pos
 clear hw
 have T0:Hid True:=trivial
 have T1:Hid True:=trivial
 have T2:Hid True:=trivial
 go_enter Tryz.func224,Tryz.ntmps224
 go_wp2_with (first
  | (go_at_call 137;refine (eD h tb htb).mono ?_;rintro e1 w1 ⟨rfl,hp1,hf1⟩)
  | (go_at_call 251;refine (jC hp1 tb _ HL).mono ?_;rintro e1 w2 ⟨rfl,hw2⟩;obtain rfl:=hw2.symm;rw[qR])
  | (go_at_call 140;clear T0;refine (cG hp1 ⟨#[114,101,103,105,111,110]⟩ HN0.out).mono ?_;rintro e1 w2 ⟨rfl,hp2,hf2⟩)
  | (go_at_call 140;clear T1;refine (dM hp2 ⟨#[101,110,116,114,121]⟩ HY.out (by decide)).mono ?_;rintro e1 w3 ⟨rfl,hp3,hf3⟩))
 have hS2:=((hS.carry (X:=[]) (by simp) (by simp) hf1).carry (X:=[]) (by simp) (by simp) hf2).carry hX hEne' hf3
 have hF2:=(((hf1.wide (X:=[C.rb])).up hf2.wide).up hf3)
 have hB2:=Nat.le_trans hEB hF2.size
 have hdr:Fr w3.heap.size [] w3 w3.drew:=(Fr.refl _ _ _).drew
 have hp3':=hp3.same hdr
 obtain ⟨y2,-⟩:=lG hS2.at_ 3 (Value.slice ao s.enter.length cap) rfl
 go_region_law
  (first
   | (refine step_append_lies _ (by rfl) _ _ _ (by rfl) B 325 i0 _ 2 24 Tryz.underlying252 hi hz0 hz1 hz2 rfl (by omega) (Value.slice ao s.enter.length cap) s.enter.length xe (by rfl) (hS4.good.own (cA s.enter _ xe) (by simp[aW]))
         ⟨g4,0,none⟩ l4.length cap4 xs4 (by rfl) hT4.own.1 (hT4.own.cells (g:=g4) rfl) (oR _ _ hT4.rows)
         hpos4 (by unfold maxLen;omega) (by omega) hB4 w4'.heap.size rfl ?_
      intro gg cap' w5' hown5 hgrow hat hlt5
      have hS5:=SU.grow_enter (m:=l4) hS4 hEsb hB2 hS2.lts (hT4.rows.map (mG.carry mP)) (by rw[List.length_append];exact hown5) hgrow (by rcases hat with e1|e1;exact .inl e1.symm;exact .inr (by rw[e1];simp[Value.ownBlock]))
      have hF5:Fr B [C.rb,sb] w w5':=(((hF2.x hEB).trans ((hdr.wide.up hf4').x hB2))).grown hgrow hB4 (fun g hg=>.inl ((hS4.good.own (cA s.enter _ xe) (by simp[aW])).lt g hg).1)
      have hp5':PS C w5' j4 c ins 0:=hp4'.low hErb ((Fr.refl B [] w4').grown hgrow hB4 (fun g hg=>.inl ((hS4.good.own (cA s.enter _ xe) (by simp[aW])).lt g hg).1))
      have hb5:w5'.heap[sb]?=some (.cells (qG s.name s.first s.last (Value.slice ao s.enter.length cap) d l p y r) 256 (0,0)):=by
       rw[hgrow.block sb hl4 (fun e1=>by have:=((hS4.good.own (cA s.enter (Value.slice ao s.enter.length cap) xe) (by simp[aW])).lt sb e1.symm).1;omega)];exact hS4.at_
      obtain ⟨y5,zy5⟩:=lG hb5 3 (Value.slice ao s.enter.length cap) rfl
      have hp6':=hp5'.put hEne 3 (.slice (some ⟨gg,0,none⟩) (s.enter.length+l4.length) cap')
      have hF6:=hF5.setCell (p:=⟨sb,3,none⟩) (.inr (by simp)) (.slice (some ⟨gg,0,none⟩) (s.enter.length+l4.length) cap'))
   | (go_simp
      go_at_call 253
      refine (mJ hp3').mono ?_
      rintro e1 w4' h4
      rcases h4.cases with ⟨f,hr4,q,rfl,hq⟩|⟨⟨l4,j4⟩,v4,hr4,rfl,⟨⟨xs4,hT4⟩,hlj4,hp4'⟩,hf4'⟩
      ·exact ⟨rfl,by rw[(HE _ hr4).out];exact aP.x ⟨q,rfl,hq⟩ ((hF2.x hEB).drew) hB2 (by simp)⟩
      have hpos4:=wO hLp hr4.out
      have hln4:=(kO _ _ _ _ _ hr4.out).1
      simp only[List.length_nil,Nat.add_zero] at hln4
      obtain ⟨g4,cap4,rfl⟩:=hT4.some hpos4
      have hS4:=hS2.carry hX hEne' (hdr.wide.up hf4')
      obtain ⟨y4,zy4⟩:=lG hS4.at_ 3 (Value.slice ao s.enter.length cap) rfl
      have hl4:=aB hS4.at_
      have hj4l:=hp4'.lt
      have hB4:B≤w4'.heap.size:=Nat.le_trans hB2 (hdr.wide.up hf4').size))
 all_goals
  go_wp2_with (go_at_call 132;refine (bT hp6' ⟨#[59]⟩ eS rfl (by decide)).mono ?_;rintro e1 w7 h7;rcases h7.cases with ⟨f,hr7,q,rfl,hq⟩|⟨_,v7,hr7,rfl,⟨rfl,hp7⟩,hf7⟩;(· exact ⟨rfl,by rw[(HE2 _ _ _ hr4 (rY hr7)).out];exact aP.x ⟨q,rfl,hq⟩ hF6 (by simp;have:=hF5.size;omega) (by simp)⟩))
  go_ret
  rw[(HO _ _ _ hr4 (pT hr7)).out]
  exact ⟨_,rfl,⟨rfl,by omega,⟨by simp;omega,by (show s.during.length≤j4+1);omega,by (show s.leave.length≤j4+1);omega,by (show s.ways.length≤j4+1);omega,by (show s.regions.length≤j4+1);omega⟩,hp7,⟨_,_,_,_,_,_,_,_,_,_,_,hS5.carry hX hEne' hf7⟩⟩,hF6.trans (hf7.x (by simp;have:=hF5.size;omega))⟩
theorem V3 {C:dT}{k B sb ins i c:Nat}{w:World}{s:cC (St k)}{reg:Nat->Nat->Except F (List (St k)×Nat×Nat)}(h:PS C w i c ins 0) (hE:Ay C B sb w) (hS:J8 k B sb w s) (hb:Bd i s) (hw:tx C.L i=eI):Calls Tryz.prog 224 #[.pointer (some ⟨C.rb,0,none⟩),.pointer (some ⟨sb,0,none⟩)] w (lE B [C.rb,sb] (mH C k B sb ins i c s) w (Px.eA C.L (St k) reg s c i)):=by
 obtain ⟨i0,hi,hz0,hz1,hz2⟩:=info_parts Tryz.info325
 obtain ⟨e,d,l,p,y,r,xe,xd,xl,xy,xr,hS⟩:=hS
 have hl6:=h.wf.len
 have hil:=h.lt
 have hbe:=hb.e
 have hbd:=hb.d
 have hbl:=hb.l
 have hby:=hb.y
 have hbr:=hb.r
 obtain ⟨hErb,hEsb,hEne,hEB⟩:=hE
 have hEne':sb∉[C.rb]:=by simp;omega
 have hX:∀x∈[C.rb],x<B:=by simp;omega
 obtain ⟨tb,htb⟩:∃tb:ByteArray,Hid (bs tb=tx C.L i):=⟨⟨(tx C.L i).toArray⟩,rfl⟩
 have hoy:w.ownsRow B 325 2 d s.during.length xd:=hS.good.own (cA s.during d xd) (by simp[aW])
 obtain ⟨ao,cap,rfl⟩:=aJ hoy
 have HL:Hid (cX (bs tb)=none):=by rw[Hid,htb.out,hw];decide
 have HY:Hid _:=hw
 have HN0:Hid (tx C.L i≠bs ⟨#[114,101,103,105,111,110]⟩):=by rw[Hid,hw];decide
 have HN1:Hid (tx C.L i≠bs ⟨#[101,110,116,114,121]⟩):=by rw[Hid,hw];decide
 have HE:∀f,Hid (sets C.L C.L.length [] (i+1)=.error f)->Hid (Px.eA C.L (St k) reg s c i=.error f):=fun f hr=>by rw[Hid,Px.eA,hw,show cX eI=none from by decide];simp only;rw[if_neg (show eI≠dL by decide),if_neg (show eI≠fR by decide),if_pos trivial,hr.out]
 have HE2:∀l j f,Hid (sets C.L C.L.length [] (i+1)=.ok (l,j))->oH C.L j=.error f->Hid (Px.eA C.L (St k) reg s c i=.error f):=fun l j f hr hs=>by rw[Hid,Px.eA,hw,show cX eI=none from by decide];simp only;rw[if_neg (show eI≠dL by decide),if_neg (show eI≠fR by decide),if_pos trivial,hr.out];simp only;rw[hs]
 have HO:∀l j m,Hid (sets C.L C.L.length [] (i+1)=.ok (l,j))->oH C.L j=.ok m->Hid (Px.eA C.L (St k) reg s c i=.ok (some ({ s with during:=s.during++l },c,m))):=fun l j m hr hs=>by rw[Hid,Px.eA,hw,show cX eI=none from by decide];simp only;rw[if_neg (show eI≠dL by decide),if_neg (show eI≠fR by decide),if_pos trivial,hr.out];simp only;rw[hs]
 have hLp:=h.wf.pos
 clear hw
 have T0:Hid True:=trivial
 have T1:Hid True:=trivial
 have T2:Hid True:=trivial
 have T3:Hid True:=trivial
 go_enter Tryz.func224,Tryz.ntmps224
 go_wp2_with (first
  | (go_at_call 137;refine (eD h tb htb).mono ?_;rintro e1 w1 ⟨rfl,hp1,hf1⟩)
  | (go_at_call 251;refine (jC hp1 tb _ HL).mono ?_;rintro e1 w2 ⟨rfl,hw2⟩;obtain rfl:=hw2.symm;rw[qR])
  | (go_at_call 140;clear T0;refine (cG hp1 ⟨#[114,101,103,105,111,110]⟩ HN0.out).mono ?_;rintro e1 w2 ⟨rfl,hp2,hf2⟩)
  | (go_at_call 140;clear T1;refine (cG hp2 ⟨#[101,110,116,114,121]⟩ HN1.out).mono ?_;rintro e1 w3 ⟨rfl,hp3,hf3⟩)
  | (go_at_call 140;clear T2;refine (dM hp3 ⟨#[100,117,114,105,110,103]⟩ HY.out (by decide)).mono ?_;rintro e1 w4 ⟨rfl,hp4,hf4⟩))
 have hS2:=(((hS.carry (X:=[]) (by simp) (by simp) hf1).carry (X:=[]) (by simp) (by simp) hf2).carry (X:=[]) (by simp) (by simp) hf3).carry hX hEne' hf4
 have hF2:=((((hf1.wide (X:=[C.rb])).up hf2.wide).up hf3.wide).up hf4)
 have hB2:=Nat.le_trans hEB hF2.size
 have hdr:Fr w4.heap.size [] w4 w4.drew:=(Fr.refl _ _ _).drew
 have hp3':=hp4.same hdr
 obtain ⟨y2,-⟩:=lG hS2.at_ 4 (Value.slice ao s.during.length cap) rfl
 go_region_law
  (first
   | (refine step_append_lies _ (by rfl) _ _ _ (by rfl) B 325 i0 _ 2 24 Tryz.underlying252 hi hz0 hz1 hz2 rfl (by omega) (Value.slice ao s.during.length cap) s.during.length xd (by rfl) (hS4.good.own (cA s.during _ xd) (by simp[aW]))
         ⟨g4,0,none⟩ l4.length cap4 xs4 (by rfl) hT4.own.1 (hT4.own.cells (g:=g4) rfl) (oR _ _ hT4.rows)
         hpos4 (by unfold maxLen;omega) (by omega) hB4 w4'.heap.size rfl ?_
      intro gg cap' w5' hown5 hgrow hat hlt5
      have hS5:=SU.grow_during (m:=l4) hS4 hEsb hB2 hS2.lts (hT4.rows.map (mG.carry mP)) (by rw[List.length_append];exact hown5) hgrow (by rcases hat with e1|e1;exact .inl e1.symm;exact .inr (by rw[e1];simp[Value.ownBlock]))
      have hF5:Fr B [C.rb,sb] w w5':=(((hF2.x hEB).trans ((hdr.wide.up hf4').x hB2))).grown hgrow hB4 (fun g hg=>.inl ((hS4.good.own (cA s.during _ xd) (by simp[aW])).lt g hg).1)
      have hp5':PS C w5' j4 c ins 0:=hp4'.low hErb ((Fr.refl B [] w4').grown hgrow hB4 (fun g hg=>.inl ((hS4.good.own (cA s.during _ xd) (by simp[aW])).lt g hg).1))
      have hb5:w5'.heap[sb]?=some (.cells (qG s.name s.first s.last e (Value.slice ao s.during.length cap) l p y r) 256 (0,0)):=by
       rw[hgrow.block sb hl4 (fun e1=>by have:=((hS4.good.own (cA s.during (Value.slice ao s.during.length cap) xd) (by simp[aW])).lt sb e1.symm).1;omega)];exact hS4.at_
      obtain ⟨y5,zy5⟩:=lG hb5 4 (Value.slice ao s.during.length cap) rfl
      have hp6':=hp5'.put hEne 4 (.slice (some ⟨gg,0,none⟩) (s.during.length+l4.length) cap')
      have hF6:=hF5.setCell (p:=⟨sb,4,none⟩) (.inr (by simp)) (.slice (some ⟨gg,0,none⟩) (s.during.length+l4.length) cap'))
   | (go_simp
      go_at_call 253
      refine (mJ hp3').mono ?_
      rintro e1 w4' h4
      rcases h4.cases with ⟨f,hr4,q,rfl,hq⟩|⟨⟨l4,j4⟩,v4,hr4,rfl,⟨⟨xs4,hT4⟩,hlj4,hp4'⟩,hf4'⟩
      ·exact ⟨rfl,by rw[(HE _ hr4).out];exact aP.x ⟨q,rfl,hq⟩ ((hF2.x hEB).drew) hB2 (by simp)⟩
      have hpos4:=wO hLp hr4.out
      have hln4:=(kO _ _ _ _ _ hr4.out).1
      simp only[List.length_nil,Nat.add_zero] at hln4
      obtain ⟨g4,cap4,rfl⟩:=hT4.some hpos4
      have hS4:=hS2.carry hX hEne' (hdr.wide.up hf4')
      obtain ⟨y4,zy4⟩:=lG hS4.at_ 4 (Value.slice ao s.during.length cap) rfl
      have hl4:=aB hS4.at_
      have hj4l:=hp4'.lt
      have hB4:B≤w4'.heap.size:=Nat.le_trans hB2 (hdr.wide.up hf4').size))
 all_goals
  go_wp2_with (go_at_call 132;refine (bT hp6' ⟨#[59]⟩ eS rfl (by decide)).mono ?_;rintro e1 w7 h7;rcases h7.cases with ⟨f,hr7,q,rfl,hq⟩|⟨_,v7,hr7,rfl,⟨rfl,hp7⟩,hf7⟩;(· exact ⟨rfl,by rw[(HE2 _ _ _ hr4 (rY hr7)).out];exact aP.x ⟨q,rfl,hq⟩ hF6 (by simp;have:=hF5.size;omega) (by simp)⟩))
  go_ret
  rw[(HO _ _ _ hr4 (pT hr7)).out]
  exact ⟨_,rfl,⟨rfl,by omega,⟨by (show s.enter.length≤j4+1);omega,by simp;omega,by (show s.leave.length≤j4+1);omega,by (show s.ways.length≤j4+1);omega,by (show s.regions.length≤j4+1);omega⟩,hp7,⟨_,_,_,_,_,_,_,_,_,_,_,hS5.carry hX hEne' hf7⟩⟩,hF6.trans (hf7.x (by simp;have:=hF5.size;omega))⟩
theorem Cf {C:dT}{k B sb ins i c:Nat}{w:World}{s:cC (St k)}{reg:Nat->Nat->Except F (List (St k)×Nat×Nat)}(h:PS C w i c ins 0) (hE:Ay C B sb w) (hS:J8 k B sb w s) (hb:Bd i s) (hw:tx C.L i=jE):Calls Tryz.prog 224 #[.pointer (some ⟨C.rb,0,none⟩),.pointer (some ⟨sb,0,none⟩)] w (lE B [C.rb,sb] (mH C k B sb ins i c s) w (Px.eA C.L (St k) reg s c i)):=by
 obtain ⟨i0,hi,hz0,hz1,hz2⟩:=info_parts Tryz.info325
 obtain ⟨e,d,l,p,y,r,xe,xd,xl,xy,xr,hS⟩:=hS
 have hl6:=h.wf.len
 have hil:=h.lt
 have hbe:=hb.e
 have hbd:=hb.d
 have hbl:=hb.l
 have hby:=hb.y
 have hbr:=hb.r
 obtain ⟨hErb,hEsb,hEne,hEB⟩:=hE
 have hEne':sb∉[C.rb]:=by simp;omega
 have hX:∀x∈[C.rb],x<B:=by simp;omega
 obtain ⟨tb,htb⟩:∃tb:ByteArray,Hid (bs tb=tx C.L i):=⟨⟨(tx C.L i).toArray⟩,rfl⟩
 have hoy:w.ownsRow B 325 2 l s.leave.length xl:=hS.good.own (cA s.leave l xl) (by simp[aW])
 obtain ⟨ao,cap,rfl⟩:=aJ hoy
 have HL:Hid (cX (bs tb)=none):=by rw[Hid,htb.out,hw];decide
 have HY:Hid _:=hw
 have HN0:Hid (tx C.L i≠bs ⟨#[114,101,103,105,111,110]⟩):=by rw[Hid,hw];decide
 have HN1:Hid (tx C.L i≠bs ⟨#[101,110,116,114,121]⟩):=by rw[Hid,hw];decide
 have HN2:Hid (tx C.L i≠bs ⟨#[100,117,114,105,110,103]⟩):=by rw[Hid,hw];decide
 have HE:∀f,Hid (sets C.L C.L.length [] (i+1)=.error f)->Hid (Px.eA C.L (St k) reg s c i=.error f):=fun f hr=>by rw[Hid,Px.eA,hw,show cX jE=none from by decide];simp only;rw[if_neg (show jE≠dL by decide),if_neg (show jE≠fR by decide),if_neg (show jE≠eI by decide),if_pos trivial,hr.out]
 have HE2:∀l j f,Hid (sets C.L C.L.length [] (i+1)=.ok (l,j))->oH C.L j=.error f->Hid (Px.eA C.L (St k) reg s c i=.error f):=fun l j f hr hs=>by rw[Hid,Px.eA,hw,show cX jE=none from by decide];simp only;rw[if_neg (show jE≠dL by decide),if_neg (show jE≠fR by decide),if_neg (show jE≠eI by decide),if_pos trivial,hr.out];simp only;rw[hs]
 have HO:∀l j m,Hid (sets C.L C.L.length [] (i+1)=.ok (l,j))->oH C.L j=.ok m->Hid (Px.eA C.L (St k) reg s c i=.ok (some ({ s with leave:=s.leave++l },c,m))):=fun l j m hr hs=>by rw[Hid,Px.eA,hw,show cX jE=none from by decide];simp only;rw[if_neg (show jE≠dL by decide),if_neg (show jE≠fR by decide),if_neg (show jE≠eI by decide),if_pos trivial,hr.out];simp only;rw[hs]
 have hLp:=h.wf.pos
 clear hw
 have T0:Hid True:=trivial
 have T1:Hid True:=trivial
 have T2:Hid True:=trivial
 have T3:Hid True:=trivial
 have T4:Hid True:=trivial
 go_enter Tryz.func224,Tryz.ntmps224
 go_wp2_with (first
  | (go_at_call 137;refine (eD h tb htb).mono ?_;rintro e1 w1 ⟨rfl,hp1,hf1⟩)
  | (go_at_call 251;refine (jC hp1 tb _ HL).mono ?_;rintro e1 w2 ⟨rfl,hw2⟩;obtain rfl:=hw2.symm;rw[qR])
  | (go_at_call 140;clear T0;refine (cG hp1 ⟨#[114,101,103,105,111,110]⟩ HN0.out).mono ?_;rintro e1 w2 ⟨rfl,hp2,hf2⟩)
  | (go_at_call 140;clear T1;refine (cG hp2 ⟨#[101,110,116,114,121]⟩ HN1.out).mono ?_;rintro e1 w3 ⟨rfl,hp3,hf3⟩)
  | (go_at_call 140;clear T2;refine (cG hp3 ⟨#[100,117,114,105,110,103]⟩ HN2.out).mono ?_;rintro e1 w4 ⟨rfl,hp4,hf4⟩)
  | (go_at_call 140;clear T3;refine (dM hp4 ⟨#[101,120,105,116]⟩ HY.out (by decide)).mono ?_;rintro e1 w5 ⟨rfl,hp5,hf5⟩))
 have hS2:=((((hS.carry (X:=[]) (by simp) (by simp) hf1).carry (X:=[]) (by simp) (by simp) hf2).carry (X:=[]) (by simp) (by simp) hf3).carry (X:=[]) (by simp) (by simp) hf4).carry hX hEne' hf5
 have hF2:=(((((hf1.wide (X:=[C.rb])).up hf2.wide).up hf3.wide).up hf4.wide).up hf5)
 have hB2:=Nat.le_trans hEB hF2.size
 have hdr:Fr w5.heap.size [] w5 w5.drew:=(Fr.refl _ _ _).drew
 have hp3':=hp5.same hdr
 obtain ⟨y2,-⟩:=lG hS2.at_ 5 (Value.slice ao s.leave.length cap) rfl
 go_region_law
  (first
   | (refine step_append_lies _ (by rfl) _ _ _ (by rfl) B 325 i0 _ 2 24 Tryz.underlying252 hi hz0 hz1 hz2 rfl (by omega) (Value.slice ao s.leave.length cap) s.leave.length xl (by rfl) (hS4.good.own (cA s.leave _ xl) (by simp[aW]))
         ⟨g4,0,none⟩ l4.length cap4 xs4 (by rfl) hT4.own.1 (hT4.own.cells (g:=g4) rfl) (oR _ _ hT4.rows)
         hpos4 (by unfold maxLen;omega) (by omega) hB4 w4'.heap.size rfl ?_
      intro gg cap' w5' hown5 hgrow hat hlt5
      have hS5:=SU.grow_leave (m:=l4) hS4 hEsb hB2 hS2.lts (hT4.rows.map (mG.carry mP)) (by rw[List.length_append];exact hown5) hgrow (by rcases hat with e1|e1;exact .inl e1.symm;exact .inr (by rw[e1];simp[Value.ownBlock]))
      have hF5:Fr B [C.rb,sb] w w5':=(((hF2.x hEB).trans ((hdr.wide.up hf4').x hB2))).grown hgrow hB4 (fun g hg=>.inl ((hS4.good.own (cA s.leave _ xl) (by simp[aW])).lt g hg).1)
      have hp5':PS C w5' j4 c ins 0:=hp4'.low hErb ((Fr.refl B [] w4').grown hgrow hB4 (fun g hg=>.inl ((hS4.good.own (cA s.leave _ xl) (by simp[aW])).lt g hg).1))
      have hb5:w5'.heap[sb]?=some (.cells (qG s.name s.first s.last e d (Value.slice ao s.leave.length cap) p y r) 256 (0,0)):=by
       rw[hgrow.block sb hl4 (fun e1=>by have:=((hS4.good.own (cA s.leave (Value.slice ao s.leave.length cap) xl) (by simp[aW])).lt sb e1.symm).1;omega)];exact hS4.at_
      obtain ⟨y5,zy5⟩:=lG hb5 5 (Value.slice ao s.leave.length cap) rfl
      have hp6':=hp5'.put hEne 5 (.slice (some ⟨gg,0,none⟩) (s.leave.length+l4.length) cap')
      have hF6:=hF5.setCell (p:=⟨sb,5,none⟩) (.inr (by simp)) (.slice (some ⟨gg,0,none⟩) (s.leave.length+l4.length) cap'))
   | (go_simp
      go_at_call 253
      refine (mJ hp3').mono ?_
      rintro e1 w4' h4
      rcases h4.cases with ⟨f,hr4,q,rfl,hq⟩|⟨⟨l4,j4⟩,v4,hr4,rfl,⟨⟨xs4,hT4⟩,hlj4,hp4'⟩,hf4'⟩
      ·exact ⟨rfl,by rw[(HE _ hr4).out];exact aP.x ⟨q,rfl,hq⟩ ((hF2.x hEB).drew) hB2 (by simp)⟩
      have hpos4:=wO hLp hr4.out
      have hln4:=(kO _ _ _ _ _ hr4.out).1
      simp only[List.length_nil,Nat.add_zero] at hln4
      obtain ⟨g4,cap4,rfl⟩:=hT4.some hpos4
      have hS4:=hS2.carry hX hEne' (hdr.wide.up hf4')
      obtain ⟨y4,zy4⟩:=lG hS4.at_ 5 (Value.slice ao s.leave.length cap) rfl
      have hl4:=aB hS4.at_
      have hj4l:=hp4'.lt
      have hB4:B≤w4'.heap.size:=Nat.le_trans hB2 (hdr.wide.up hf4').size))
 all_goals
  go_wp2_with (go_at_call 132;refine (bT hp6' ⟨#[59]⟩ eS rfl (by decide)).mono ?_;rintro e1 w7 h7;rcases h7.cases with ⟨f,hr7,q,rfl,hq⟩|⟨_,v7,hr7,rfl,⟨rfl,hp7⟩,hf7⟩;(· exact ⟨rfl,by rw[(HE2 _ _ _ hr4 (rY hr7)).out];exact aP.x ⟨q,rfl,hq⟩ hF6 (by simp;have:=hF5.size;omega) (by simp)⟩))
  go_ret
  rw[(HO _ _ _ hr4 (pT hr7)).out]
  exact ⟨_,rfl,⟨rfl,by omega,⟨by (show s.enter.length≤j4+1);omega,by (show s.during.length≤j4+1);omega,by simp;omega,by (show s.ways.length≤j4+1);omega,by (show s.regions.length≤j4+1);omega⟩,hp7,⟨_,_,_,_,_,_,_,_,_,_,_,hS5.carry hX hEne' hf7⟩⟩,hF6.trans (hf7.x (by simp;have:=hF5.size;omega))⟩
def Region (C:dT) (k:Nat):Prop:=∀(w:World) (i c ins:Nat),ins+k=6->PS C w i c ins 0->Calls Tryz.prog 141 #[.pointer (some ⟨C.rb,0,none⟩)] w (uJ C (fun x v w'=>aL (Ge w.heap.size) w' k x.1 v/\PS C w' x.2.2 x.2.1 ins 0) w (aU C.L k c i))
theorem aL.shape {A:Nat->Prop}{w:World}{k:Nat}{l:List (St k)}{v:Value}(h:aL A w k l v):∃ao n cap,v=.slice ao n cap:=by
 cases k with
 | zero=>exact ⟨none,0,0,h.2⟩
 | succ k=>
  obtain ⟨xs,hr,_⟩:=h
  obtain ⟨ao,cap,rfl⟩:=aJ hr.1
  exact ⟨ao,_,cap,rfl⟩
theorem cell_one_new (w:World) (a:Value) (t:TypeId):∀j u,[a][j]?=some u->(w.alloc (.cells #[a] t)).cell? ((⟨w.heap.size,0,none⟩:Addr).add j)=some u:=by
 intro j u hj
 match j,hj with
 | 0,hj=>simp at hj;subst hj;simp[Addr.add]
 | j+1,hj=>simp at hj
theorem E5 {C:dT}{k B sb ins i c:Nat}{w:World}{s:cC (St k)}(h:PS C w i c ins 0) (hE:Ay C B sb w) (hS:J8 k B sb w s) (hb:Bd i s) (hR:Region C k) (hk:ins+k=6) (hlt:∀c i l c' j,aU C.L k c i=.ok (l,c',j)->i<j) (hw:tx C.L i=dL):Calls Tryz.prog 224 #[.pointer (some ⟨C.rb,0,none⟩),.pointer (some ⟨sb,0,none⟩)] w (lE B [C.rb,sb] (mH C k B sb ins i c s) w (Px.eA C.L (St k) (aU C.L k) s c i)):=by
 obtain ⟨i0,hi,hz0,hz1,hz2⟩:=info_parts Tryz.info210
 obtain ⟨e,d,l,p,y,r,xe,xd,xl,xy,xr,hS⟩:=hS
 have hl6:=h.wf.len
 have hil:=h.lt
 have hbe:=hb.e
 have hbd:=hb.d
 have hbl:=hb.l
 have hby:=hb.y
 have hbr:=hb.r
 obtain ⟨hErb,hEsb,hEne,hEB⟩:=hE
 have hEne':sb∉[C.rb]:=by simp;omega
 have hX:∀x∈[C.rb],x<B:=by simp;omega
 obtain ⟨tb,htb⟩:∃tb:ByteArray,Hid (bs tb=tx C.L i):=⟨⟨(tx C.L i).toArray⟩,rfl⟩
 have hoy:w.ownsRow B 210 1 r s.regions.length xr:=hS.good.own (dU k s.regions r xr) (by simp[aW])
 obtain ⟨ao,cap,rfl⟩:=aJ hoy
 have HL:Hid (cX (bs tb)=none):=by rw[Hid,htb.out,hw];decide
 have HY:Hid _:=hw
 have HE:∀f,Hid (aU C.L k c (i+1)=.error f)->Hid (Px.eA C.L (St k) (aU C.L k) s c i=.error f):=fun f hr=>by rw[Hid,Px.eA,hw,show cX dL=none from by decide];simp only;rw[if_pos trivial,hr.out]
 have HO:∀l c' j,Hid (aU C.L k c (i+1)=.ok (l,c',j))->Hid (Px.eA C.L (St k) (aU C.L k) s c i=.ok (some ({ s with regions:=s.regions++[l] },c',j))):=fun l c' j hr=>by rw[Hid,Px.eA,hw,show cX dL=none from by decide];simp only;rw[if_pos trivial,hr.out]
 clear hw
 have T0:Hid True:=trivial
 have T1:Hid True:=trivial
 go_enter Tryz.func224,Tryz.ntmps224
 go_wp2_with (first
  | (go_at_call 137;refine (eD h tb htb).mono ?_;rintro e1 w1 ⟨rfl,hp1,hf1⟩)
  | (go_at_call 251;refine (jC hp1 tb _ HL).mono ?_;rintro e1 w2 ⟨rfl,hw2⟩;obtain rfl:=hw2.symm;rw[qR])
  | (go_at_call 140;clear T0;refine (dM hp1 ⟨#[114,101,103,105,111,110]⟩ HY.out (by decide)).mono ?_;rintro e1 w2 ⟨rfl,hp2,hf2⟩))
 have hS2:=(hS.carry (X:=[]) (by simp) (by simp) hf1).carry hX hEne' hf2
 have hF2:=((hf1.wide (X:=[C.rb])).up hf2)
 have hB2:=Nat.le_trans hEB hF2.size
 have hdr:Fr w2.heap.size [] w2 w2.drew:=(Fr.refl _ _ _).drew
 have hp3':=hp2.same hdr
 obtain ⟨y2,-⟩:=lG hS2.at_ 8 (Value.slice ao s.regions.length cap) rfl
 go_region_law
  (first
   | (refine step_append_lies _ (by rfl) _ _ _ (by rfl) B 210 i0 _ 1 24 Tryz.underlying50 hi hz0 hz1 hz2 rfl (by omega) (Value.slice ao s.regions.length cap) s.regions.length xr (by rfl) (hA4.good.own (dU k s.regions _ xr) (by simp[aW]))
         ⟨w4'.heap.size,0,none⟩ 1 1 [.slice ao4 n4 cap4] (by rfl) (by rfl) (cell_one_new w4' _ 210) (by intro u hu;simp at hu;subst hu;rfl)
         (by omega) (by unfold maxLen;omega) (by omega) (by simp;omega) (w4'.heap.size+1) (by simp) ?_
      intro gg cap' w5' hown5 hgrow hat hlt5
      have hS5:=SU.grow_regions (a:=a4) (u:=.slice ao4 n4 cap4) hA4 hEsb hB2 hS2.lts ⟨rfl,aL.carry (aY (X:=[]) (by simp) hal) k _ _ hv4⟩ (by rw[List.length_append];exact hown5) hgrow (by rcases hat with e1|e1;exact .inl e1.symm;exact .inr (by rw[e1];simp[Value.ownBlock]))
      have hF5:Fr B [C.rb,sb] w w5':=((((hF2.x hEB).trans ((hdr.wide.up hf4').x hB2)).alloc hB4 _).grown hgrow (by simp;omega) (fun g hg=>.inl ((hA4.good.own (dU k s.regions _ xr) (by simp[aW])).lt g hg).1))
      have hp5':PS C w5' j4 c4 ins 0:=hp4'.low hErb (((Fr.refl B [] w4').alloc hB4 _).grown hgrow (by simp;omega) (fun g hg=>.inl ((hA4.good.own (dU k s.regions _ xr) (by simp[aW])).lt g hg).1))
      have hb5:w5'.heap[sb]?=some (.cells (qG s.name s.first s.last e d l p y (Value.slice ao s.regions.length cap)) 256 (0,0)):=by
       rw[hgrow.block sb (by simp;omega) (fun e1=>by have:=((hA4.good.own (dU k s.regions (Value.slice ao s.regions.length cap) xr) (by simp[aW])).lt sb e1.symm).1;omega)];exact hA4.at_
      obtain ⟨y5,zy5⟩:=lG hb5 8 (Value.slice ao s.regions.length cap) rfl)
   | (go_simp
      go_at_call 141
      refine (hR _ (i+1) c ins hk hp3').mono ?_
      rintro e1 w4' h4
      rcases h4.cases with ⟨f,hr4,q,rfl,hq⟩|⟨⟨a4,c4,j4⟩,v4,hr4,rfl,⟨hv4,hp4'⟩,hf4'⟩
      ·exact ⟨rfl,by rw[(HE _ hr4).out];exact aP.x ⟨q,rfl,hq⟩ ((hF2.x hEB).drew) hB2 (by simp)⟩
      obtain ⟨ao4,n4,cap4,rfl⟩:=aL.shape hv4
      have hj4:=hlt _ _ _ _ _ hr4.out
      have hS4:=hS2.carry hX hEne' (hdr.wide.up hf4')
      obtain ⟨y4,zy4⟩:=lG hS4.at_ 8 (Value.slice ao s.regions.length cap) rfl
      have hl4:=aB hS4.at_
      have hB4:B≤w4'.heap.size:=Nat.le_trans hB2 (hdr.wide.up hf4').size
      have hal:Fr w4'.heap.size [] w4' (w4'.alloc (.cells #[.slice ao4 n4 cap4] 210)):=(Fr.refl _ _ _).alloc (Nat.le_refl _) _
      have hA4:=hS4.carry (X:=[]) (by simp) (by simp) hal))
 all_goals
  go_wp2_with fail
  go_ret
  rw[(HO _ _ _ hr4).out]
  exact ⟨_,rfl,⟨rfl,by omega,⟨by (show s.enter.length≤j4);omega,by (show s.during.length≤j4);omega,by (show s.leave.length≤j4);omega,by (show s.ways.length≤j4);omega,by simp;omega⟩,hp5'.put hEne _ _,⟨_,_,_,_,_,_,_,_,_,_,_,hS5⟩⟩,hF5.setCell (.inr (by simp)) _⟩
theorem Cd {C:dT}{k B sb ins i c:Nat}{w:World}{s:cC (St k)}{reg:Nat->Nat->Except F (List (St k)×Nat×Nat)}(h:PS C w i c ins 0) (hE:Ay C B sb w) (hS:J8 k B sb w s) (hb:Bd i s) (hw:tx C.L i=cY) (hre:s.rests≠.nil):Calls Tryz.prog 224 #[.pointer (some ⟨C.rb,0,none⟩),.pointer (some ⟨sb,0,none⟩)] w (lE B [C.rb,sb] (mH C k B sb ins i c s) w (Px.eA C.L (St k) reg s c i)):=by
 obtain ⟨e,d,l,p,y,r,xe,xd,xl,xy,xr,hS⟩:=hS
 have hl6:=h.wf.len
 have hil:=h.lt
 have hbe:=hb.e
 have hbd:=hb.d
 have hbl:=hb.l
 have hby:=hb.y
 have hbr:=hb.r
 obtain ⟨hErb,hEsb,hEne,hEB⟩:=hE
 have hEne':sb∉[C.rb]:=by simp;omega
 have hX:∀x∈[C.rb],x<B:=by simp;omega
 obtain ⟨tb,htb⟩:∃tb:ByteArray,Hid (bs tb=tx C.L i):=⟨⟨(tx C.L i).toArray⟩,rfl⟩
 have HL:Hid (cX (bs tb)=none):=by rw[Hid,htb.out,hw];decide
 have HY:Hid _:=hw
 have HN0:Hid (tx C.L i≠bs ⟨#[114,101,103,105,111,110]⟩):=by rw[Hid,hw];decide
 have HN1:Hid (tx C.L i≠bs ⟨#[101,110,116,114,121]⟩):=by rw[Hid,hw];decide
 have HN2:Hid (tx C.L i≠bs ⟨#[100,117,114,105,110,103]⟩):=by rw[Hid,hw];decide
 have HN3:Hid (tx C.L i≠bs ⟨#[101,120,105,116]⟩):=by rw[Hid,hw];decide
 have hpp:jI (rM B (aW k s e d l p y r xe xd xl xy xr)) w s.rests p:=hS.good.has (jY s.rests p) (by simp[aW])
 obtain ⟨gp,hgp⟩:∃gp,p=.pointer (some gp):=by
  cases hr:s.rests with
  | nil=>exact absurd hr hre
  | node b o a l r=>rw[hr] at hpp;obtain ⟨g,lv,rv,hpv,_⟩:=hpp;exact ⟨_,hpv⟩
 have HO:Hid (Px.eA C.L (St k) reg s c i=.error (9,pl C.L (i+1))):=by
  rw[Hid,Px.eA,hw,show cX cY=none from by decide];simp only;rw[if_neg (show cY≠dL by decide),if_neg (show cY≠fR by decide),if_neg (show cY≠eI by decide),if_neg (show cY≠jE by decide),if_pos trivial]
  cases hr:s.rests with
  | nil=>exact absurd hr hre
  | node b o a l r=>rfl
 clear hpp
 subst hgp
 clear hw hre
 have T0:Hid True:=trivial
 have T1:Hid True:=trivial
 have T2:Hid True:=trivial
 have T3:Hid True:=trivial
 have T4:Hid True:=trivial
 have T5:Hid True:=trivial
 go_enter Tryz.func224,Tryz.ntmps224
 go_wp2_with (first
  | (go_at_call 137;refine (eD h tb htb).mono ?_;rintro e1 w1 ⟨rfl,hp1,hf1⟩)
  | (go_at_call 251;refine (jC hp1 tb _ HL).mono ?_;rintro e1 w2 ⟨rfl,hw2⟩;obtain rfl:=hw2.symm;rw[qR])
  | (go_at_call 140;clear T0;refine (cG hp1 ⟨#[114,101,103,105,111,110]⟩ HN0.out).mono ?_;rintro e1 w2 ⟨rfl,hp2,hf2⟩)
  | (go_at_call 140;clear T1;refine (cG hp2 ⟨#[101,110,116,114,121]⟩ HN1.out).mono ?_;rintro e1 w3 ⟨rfl,hp3,hf3⟩)
  | (go_at_call 140;clear T2;refine (cG hp3 ⟨#[100,117,114,105,110,103]⟩ HN2.out).mono ?_;rintro e1 w4 ⟨rfl,hp4,hf4⟩)
  | (go_at_call 140;clear T3;refine (cG hp4 ⟨#[101,120,105,116]⟩ HN3.out).mono ?_;rintro e1 w5 ⟨rfl,hp5,hf5⟩)
  | (go_at_call 140;clear T4;refine (dM hp5 ⟨#[115,117,115,112,101,110,100]⟩ HY.out (by decide)).mono ?_;rintro e1 w6 ⟨rfl,hp6,hf6⟩;have hS6:=(((((hS.carry (X:=[]) (by simp) (by simp) hf1).carry (X:=[]) (by simp) (by simp) hf2).carry (X:=[]) (by simp) (by simp) hf3).carry (X:=[]) (by simp) (by simp) hf4).carry (X:=[]) (by simp) (by simp) hf5).carry hX hEne' hf6;obtain ⟨y2,-⟩:=lG hS6.at_ 6 (Value.pointer (some gp)) rfl)
  | (go_at_call 142;refine (gR hp6 9).mono ?_;rintro e1 w7 ⟨q,rfl,hq⟩;exact ⟨rfl,by rw[HO.out];exact aP.x ⟨q,rfl,hq⟩ (((((((hf1.wide (X:=[C.rb])).up hf2.wide).up hf3.wide).up hf4.wide).up hf5.wide).up hf6).x hEB) (Nat.le_trans hEB ((((((hf1.wide (X:=[C.rb])).up hf2.wide).up hf3.wide).up hf4.wide).up hf5.wide).up hf6).size) (by simp)⟩))
theorem Ce {C:dT}{k B sb ins i c:Nat}{w:World}{s:cC (St k)}{reg:Nat->Nat->Except F (List (St k)×Nat×Nat)}(h:PS C w i c ins 0) (hE:Ay C B sb w) (hS:J8 k B sb w s) (hb:Bd i s) (hw:tx C.L i=cY) (hre:s.rests=.nil):Calls Tryz.prog 224 #[.pointer (some ⟨C.rb,0,none⟩),.pointer (some ⟨sb,0,none⟩)] w (lE B [C.rb,sb] (mH C k B sb ins i c s) w (Px.eA C.L (St k) reg s c i)):=by
 obtain ⟨e,d,l,p,y,r,xe,xd,xl,xy,xr,hS⟩:=hS
 have hl6:=h.wf.len
 have hil:=h.lt
 have hbe:=hb.e
 have hbd:=hb.d
 have hbl:=hb.l
 have hby:=hb.y
 have hbr:=hb.r
 obtain ⟨hErb,hEsb,hEne,hEB⟩:=hE
 have hEne':sb∉[C.rb]:=by simp;omega
 have hX:∀x∈[C.rb],x<B:=by simp;omega
 obtain ⟨tb,htb⟩:∃tb:ByteArray,Hid (bs tb=tx C.L i):=⟨⟨(tx C.L i).toArray⟩,rfl⟩
 have HL:Hid (cX (bs tb)=none):=by rw[Hid,htb.out,hw];decide
 have HY:Hid _:=hw
 have HN0:Hid (tx C.L i≠bs ⟨#[114,101,103,105,111,110]⟩):=by rw[Hid,hw];decide
 have HN1:Hid (tx C.L i≠bs ⟨#[101,110,116,114,121]⟩):=by rw[Hid,hw];decide
 have HN2:Hid (tx C.L i≠bs ⟨#[100,117,114,105,110,103]⟩):=by rw[Hid,hw];decide
 have HN3:Hid (tx C.L i≠bs ⟨#[101,120,105,116]⟩):=by rw[Hid,hw];decide
 have hpp:jI (rM B (aW k s e d l p y r xe xd xl xy xr)) w s.rests p:=hS.good.has (jY s.rests p) (by simp[aW])
 have hp0:p=.pointer none:=by rw[hre] at hpp;exact hpp
 clear hpp
 subst hp0
 have HE:∀f,Hid (eK C.L (i+1)=.error f)->Hid (Px.eA C.L (St k) reg s c i=.error f):=fun f hr=>by rw[Hid,Px.eA,hw,show cX cY=none from by decide];simp only;rw[if_neg (show cY≠dL by decide),if_neg (show cY≠fR by decide),if_neg (show cY≠eI by decide),if_neg (show cY≠jE by decide),if_pos trivial,hre];simp only;rw[hr.out]
 have HE2:∀t j f,Hid (eK C.L (i+1)=.ok (t,j))->oH C.L j=.error f->Hid (Px.eA C.L (St k) reg s c i=.error f):=fun t j f hr hs=>by rw[Hid,Px.eA,hw,show cX cY=none from by decide];simp only;rw[if_neg (show cY≠dL by decide),if_neg (show cY≠fR by decide),if_neg (show cY≠eI by decide),if_neg (show cY≠jE by decide),if_pos trivial,hre];simp only;rw[hr.out];simp only;rw[hs]
 have HO:∀t j m,Hid (eK C.L (i+1)=.ok (t,j))->oH C.L j=.ok m->Hid (Px.eA C.L (St k) reg s c i=.ok (some ({ s with rests:=t },c,m))):=fun t j m hr hs=>by rw[Hid,Px.eA,hw,show cX cY=none from by decide];simp only;rw[if_neg (show cY≠dL by decide),if_neg (show cY≠fR by decide),if_neg (show cY≠eI by decide),if_neg (show cY≠jE by decide),if_pos trivial,hre];simp only;rw[hr.out];simp only;rw[hs]
 clear hw hre
 have T0:Hid True:=trivial
 have T1:Hid True:=trivial
 have T2:Hid True:=trivial
 have T3:Hid True:=trivial
 have T4:Hid True:=trivial
 have T5:Hid True:=trivial
 go_enter Tryz.func224,Tryz.ntmps224
 go_wp2_with (first
  | (go_at_call 137;refine (eD h tb htb).mono ?_;rintro e1 w1 ⟨rfl,hp1,hf1⟩)
  | (go_at_call 251;refine (jC hp1 tb _ HL).mono ?_;rintro e1 w2 ⟨rfl,hw2⟩;obtain rfl:=hw2.symm;rw[qR])
  | (go_at_call 140;clear T0;refine (cG hp1 ⟨#[114,101,103,105,111,110]⟩ HN0.out).mono ?_;rintro e1 w2 ⟨rfl,hp2,hf2⟩)
  | (go_at_call 140;clear T1;refine (cG hp2 ⟨#[101,110,116,114,121]⟩ HN1.out).mono ?_;rintro e1 w3 ⟨rfl,hp3,hf3⟩)
  | (go_at_call 140;clear T2;refine (cG hp3 ⟨#[100,117,114,105,110,103]⟩ HN2.out).mono ?_;rintro e1 w4 ⟨rfl,hp4,hf4⟩)
  | (go_at_call 140;clear T3;refine (cG hp4 ⟨#[101,120,105,116]⟩ HN3.out).mono ?_;rintro e1 w5 ⟨rfl,hp5,hf5⟩)
  | (go_at_call 140;clear T4;refine (dM hp5 ⟨#[115,117,115,112,101,110,100]⟩ HY.out (by decide)).mono ?_;rintro e1 w6 ⟨rfl,hp6,hf6⟩;have hS6:=(((((hS.carry (X:=[]) (by simp) (by simp) hf1).carry (X:=[]) (by simp) (by simp) hf2).carry (X:=[]) (by simp) (by simp) hf3).carry (X:=[]) (by simp) (by simp) hf4).carry (X:=[]) (by simp) (by simp) hf5).carry hX hEne' hf6;obtain ⟨y2,-⟩:=lG hS6.at_ 6 (Value.pointer none) rfl;have hF6:=((((((hf1.wide (X:=[C.rb])).up hf2.wide).up hf3.wide).up hf4.wide).up hf5.wide).up hf6);have hB6:=Nat.le_trans hEB hF6.size)
  | (go_at_call 254;refine (kS hp6).mono ?_;rintro e1 w7 h7;rcases h7.cases with ⟨f,hr7,q,rfl,hq⟩|⟨⟨t7,j7⟩,v7,hr7,rfl,⟨hv7,hp7⟩,hf7⟩;(· exact ⟨rfl,by rw[(HE _ hr7).out];exact aP.x ⟨q,rfl,hq⟩ (hF6.x hEB) hB6 (by simp)⟩);obtain ⟨u7,rfl⟩:=hv7.ptr;have hS7:=hS6.carry hX hEne' hf7;obtain ⟨y7,z7⟩:=lG hS7.at_ 6 (Value.pointer none) rfl;have hS8:=SU.grow_rests hS7 hEsb hB6 hS6.lts hv7;have hj7:=qB hr7;have hp8:=hp7.put hEne 6 (.pointer u7);have hF7:Fr B [C.rb,sb] w w7:=(hF6.x hEB).trans (hf7.x hB6);have hB7:=hf7.size;have hF8:=hF7.setCell (p:=⟨sb,6,none⟩) (.inr (by simp)) (.pointer u7))
  | (go_at_call 132;refine (bT hp8 ⟨#[59]⟩ eS rfl (by decide)).mono ?_;rintro e1 w9 h9;rcases h9.cases with ⟨f,hr9,q,rfl,hq⟩|⟨_,v9,hr9,rfl,⟨rfl,hp9⟩,hf9⟩;(· exact ⟨rfl,by rw[(HE2 _ _ _ hr7 (rY hr9)).out];exact aP.x ⟨q,rfl,hq⟩ hF8 (by simp;omega) (by simp)⟩)))
 go_ret
 rw[(HO _ _ _ hr7 (pT hr9)).out]
 exact ⟨_,rfl,⟨rfl,by omega,⟨by (show s.enter.length≤j7+1);omega,by (show s.during.length≤j7+1);omega,by (show s.leave.length≤j7+1);omega,by (show s.ways.length≤j7+1);omega,by (show s.regions.length≤j7+1);omega⟩,hp9,⟨_,_,_,_,_,_,_,_,_,_,_,hS8.carry hX hEne' hf9⟩⟩,hF8.trans (hf9.x (by simp;omega))⟩
theorem Il {C:dT}{k B sb ins i c:Nat}{w:World}{s:cC (St k)}{reg:Nat->Nat->Except F (List (St k)×Nat×Nat)}(h:PS C w i c ins 0) (hE:Ay C B sb w) (hS:J8 k B sb w s) (hb:Bd i s) (hl:cX (tx C.L i)=none) (hn0:tx C.L i≠dL) (hn1:tx C.L i≠fR) (hn2:tx C.L i≠eI) (hn3:tx C.L i≠jE) (hn4:tx C.L i≠cY):Calls Tryz.prog 224 #[.pointer (some ⟨C.rb,0,none⟩),.pointer (some ⟨sb,0,none⟩)] w (lE B [C.rb,sb] (mH C k B sb ins i c s) w (Px.eA C.L (St k) reg s c i)):=by
 obtain ⟨e,d,l,p,y,r,xe,xd,xl,xy,xr,hS⟩:=hS
 have hl6:=h.wf.len
 have hil:=h.lt
 have hbe:=hb.e
 have hbd:=hb.d
 have hbl:=hb.l
 have hby:=hb.y
 have hbr:=hb.r
 obtain ⟨hErb,hEsb,hEne,hEB⟩:=hE
 have hEne':sb∉[C.rb]:=by simp;omega
 have hX:∀x∈[C.rb],x<B:=by simp;omega
 obtain ⟨tb,htb⟩:∃tb:ByteArray,Hid (bs tb=tx C.L i):=⟨⟨(tx C.L i).toArray⟩,rfl⟩
 have HL:Hid (cX (bs tb)=none):=by rw[Hid,htb.out];exact hl
 have HO:Hid (Px.eA C.L (St k) reg s c i=.ok none):=by rw[Hid,Px.eA,hl];simp only;rw[if_neg hn0,if_neg hn1,if_neg hn2,if_neg hn3,if_neg hn4]
 have HN0:Hid _:=hn0
 have HN1:Hid _:=hn1
 have HN2:Hid _:=hn2
 have HN3:Hid _:=hn3
 have HN4:Hid _:=hn4
 clear hl hn0 hn1 hn2 hn3 hn4
 have T0:Hid True:=trivial
 have T1:Hid True:=trivial
 have T2:Hid True:=trivial
 have T3:Hid True:=trivial
 have T4:Hid True:=trivial
 have T5:Hid True:=trivial
 go_enter Tryz.func224,Tryz.ntmps224
 go_wp2_with (first
  | (go_at_call 137;refine (eD h tb htb).mono ?_;rintro e1 w1 ⟨rfl,hp1,hf1⟩)
  | (go_at_call 251;refine (jC hp1 tb _ HL).mono ?_;rintro e1 w2 ⟨rfl,hw2⟩;obtain rfl:=hw2.symm;rw[qR])
  | (go_at_call 140;clear T0;refine (cG hp1 ⟨#[114,101,103,105,111,110]⟩ HN0.out).mono ?_;rintro e1 w2 ⟨rfl,hp2,hf2⟩)
  | (go_at_call 140;clear T1;refine (cG hp2 ⟨#[101,110,116,114,121]⟩ HN1.out).mono ?_;rintro e1 w3 ⟨rfl,hp3,hf3⟩)
  | (go_at_call 140;clear T2;refine (cG hp3 ⟨#[100,117,114,105,110,103]⟩ HN2.out).mono ?_;rintro e1 w4 ⟨rfl,hp4,hf4⟩)
  | (go_at_call 140;clear T3;refine (cG hp4 ⟨#[101,120,105,116]⟩ HN3.out).mono ?_;rintro e1 w5 ⟨rfl,hp5,hf5⟩)
  | (go_at_call 140;clear T4;refine (cG hp5 ⟨#[115,117,115,112,101,110,100]⟩ HN4.out).mono ?_;rintro e1 w6 ⟨rfl,hp6,hf6⟩))
 go_ret
 rw[HO.out]
 exact ⟨_,rfl,⟨rfl,hp6,⟨_,_,_,_,_,_,_,_,_,_,_,(((((hS.carry (X:=[]) (by simp) (by simp) hf1).carry (X:=[]) (by simp) (by simp) hf2).carry (X:=[]) (by simp) (by simp) hf3).carry (X:=[]) (by simp) (by simp) hf4).carry (X:=[]) (by simp) (by simp) hf5).carry hX hEne' hf6.wide⟩⟩,((((((hf1.wide (X:=[C.rb])).up hf2.wide).up hf3.wide).up hf4.wide).up hf5.wide).up hf6.wide).x hEB⟩
theorem Np {C:dT}{k B sb ins i c:Nat}{w:World}{s:cC (St k)}(h:PS C w i c ins 0) (hE:Ay C B sb w) (hS:J8 k B sb w s) (hb:Bd i s) (hR:Region C k) (hk:ins+k=6) (hlt:∀c i l c' j,aU C.L k c i=.ok (l,c',j)->i<j):Calls Tryz.prog 224 #[.pointer (some ⟨C.rb,0,none⟩),.pointer (some ⟨sb,0,none⟩)] w (lE B [C.rb,sb] (mH C k B sb ins i c s) w (Px.eA C.L (St k) (aU C.L k) s c i)):=by
 cases hl:cX (tx C.L i) with
 | some kd=>exact Nn h hE hS hb kd hl
 | none=>
  by_cases h0:tx C.L i=dL
  ·exact E5 h hE hS hb hR hk hlt h0
  ·by_cases h1:tx C.L i=fR
   ·exact Cg h hE hS hb h1
   ·by_cases h2:tx C.L i=eI
    ·exact V3 h hE hS hb h2
    ·by_cases h3:tx C.L i=jE
     ·exact Cf h hE hS hb h3
     ·by_cases h4:tx C.L i=cY
      ·cases hr:s.rests with
       | nil=>exact Ce h hE hS hb h4 hr
       | node b o a l r=>exact Cd h hE hS hb h4 (by rw[hr];simp)
      ·exact Il h hE hS hb hl h0 h1 h2 h3 h4
end Go.Proofs.YtcdbhoknhnimcaaGreatDoor
