import Derived.Test.YtcdbhoknhnimcaaGreatDoorSPpart
set_option maxRecDepth 100000
set_option maxHeartbeats 8000000
namespace Go.Proofs.YtcdbhoknhnimcaaGreatDoor
open Go.RowKit Px
theorem aF4 {C:dM}{k B sb ins i c:Nat}{w:World}{s:bM (St k)}{reg:Nat->Nat->Except F (List (St k)×Nat×Nat)}(h:PS C w i c ins 0) (hE:Ao C B sb w) (hS:I0 k B sb w s) (hb:Bd i s) (hw:tx C.L i=fN):Calls Tryz.prog 224 #[.pointer (some ⟨C.rb,0,none⟩),.pointer (some ⟨sb,0,none⟩)] w (kB B [C.rb,sb] (lL C k B sb ins i c s) w (Px.dP C.L (St k) reg s c i)):=by
 obtain ⟨i0,hi,hz0,hz1,hz2⟩:=info_parts Tryz.info325
 obtain ⟨e,d,l,p,y,r,xe,xd,xl,xy,xr,hS⟩:=hS
 have hl6:=h.wf.len
 have hil:=h.lt
 have hbe:=hb.e
 have hbd:=hb.d
 have hbl:=hb.l
 have hby:=hb.y
 have hbr:=hb.r
 obtain ⟨hErb,hEsb,hEne,hEB⟩:=hE
 have hEne':sb∉[C.rb]:=by simp;omega
 have hX:∀x∈[C.rb],x<B:=by simp;omega
 obtain ⟨tb,htb⟩:∃tb:ByteArray,Hid (bs tb=tx C.L i):=⟨⟨(tx C.L i).toArray⟩,rfl⟩
 have hoy:w.ownsRow B 325 2 e s.enter.length xe:=hS.good.own (bL s.enter e xe) (by simp[aX])
 obtain ⟨ao,cap,rfl⟩:=aL hoy
 have HL:Hid (cG (bs tb)=none):=by rw[Hid,htb.out,hw];decide
 have HY:Hid _:=hw
 have HN0:Hid (tx C.L i≠bs ⟨#[114,101,103,105,111,110]⟩):=by rw[Hid,hw];decide
 have HE:∀f,Hid (sets C.L C.L.length [] (i+1)=.error f)->Hid (Px.dP C.L (St k) reg s c i=.error f):=fun f hr=>by rw[Hid,Px.dP,hw,show cG fN=none from by decide];simp only;rw[if_neg (show fN≠dC by decide),if_pos trivial,hr.out]
 have HE2:∀l j f,Hid (sets C.L C.L.length [] (i+1)=.ok (l,j))->nF C.L j=.error f->Hid (Px.dP C.L (St k) reg s c i=.error f):=fun l j f hr hs=>by rw[Hid,Px.dP,hw,show cG fN=none from by decide];simp only;rw[if_neg (show fN≠dC by decide),if_pos trivial,hr.out];simp only;rw[hs]
 have HO:∀l j m,Hid (sets C.L C.L.length [] (i+1)=.ok (l,j))->nF C.L j=.ok m->Hid (Px.dP C.L (St k) reg s c i=.ok (some ({ s with enter:=s.enter++l },c,m))):=fun l j m hr hs=>by rw[Hid,Px.dP,hw,show cG fN=none from by decide];simp only;rw[if_neg (show fN≠dC by decide),if_pos trivial,hr.out];simp only;rw[hs]
 have hLp:=h.wf.pos
 clear hw
 have T0:Hid True:=trivial
 have T1:Hid True:=trivial
 have T2:Hid True:=trivial
 go_enter Tryz.func224,Tryz.ntmps224
 go_wp2_with (first
  | (go_at_call 137;refine (dX h tb htb).mono ?_;rintro e1 w1 ⟨rfl,hp1,hf1⟩)
  | (go_at_call 251;refine (iI hp1 tb _ HL).mono ?_;rintro e1 w2 ⟨rfl,hw2⟩;obtain rfl:=hw2.symm;rw[pR])
  | (go_at_call 140;clear T0;refine (bR hp1 ⟨#[114,101,103,105,111,110]⟩ HN0.out).mono ?_;rintro e1 w2 ⟨rfl,hp2,hf2⟩)
  | (go_at_call 140;clear T1;refine (dE hp2 ⟨#[101,110,116,114,121]⟩ HY.out (by decide)).mono ?_;rintro e1 w3 ⟨rfl,hp3,hf3⟩))
 have hS2:=((hS.carry (X:=[]) (by simp) (by simp) hf1).carry (X:=[]) (by simp) (by simp) hf2).carry hX hEne' hf3
 have hF2:=(((hf1.wide (X:=[C.rb])).up hf2.wide).up hf3)
 have hB2:=Nat.le_trans hEB hF2.size
 have hdr:Fr w3.heap.size [] w3 w3.drew:=(Fr.refl _ _ _).drew
 have hp3':=hp3.same hdr
 obtain ⟨y2,-⟩:=dD hS2.at_ 3 (Value.slice ao s.enter.length cap) rfl
 go_region_law
  (first
   | (refine step_append_lies _ (by rfl) _ _ _ (by rfl) B 325 i0 _ 2 24 Tryz.underlying252 hi hz0 hz1 hz2 rfl (by omega) (Value.slice ao s.enter.length cap) s.enter.length xe (by rfl) (hS4.good.own (bL s.enter _ xe) (by simp[aX]))
         ⟨g4,0,none⟩ l4.length cap4 xs4 (by rfl) hT4.own.1 (hT4.own.cells (g:=g4) rfl) (nO _ _ hT4.rows)
         hpos4 (by unfold maxLen;omega) (by omega) hB4 w4'.heap.size rfl ?_
      intro gg cap' w5' hown5 hgrow hat hlt5
      have hS5:=SU.grow_enter (m:=l4) hS4 hEsb hB2 hS2.lts (hT4.rows.map (lK.carry lT)) (by rw[List.length_append];exact hown5) hgrow (by rcases hat with e1|e1;exact .inl e1.symm;exact .inr (by rw[e1];simp[Value.ownBlock]))
      have hF5:Fr B [C.rb,sb] w w5':=(((hF2.x hEB).trans ((hdr.wide.up hf4').x hB2))).grown hgrow hB4 (fun g hg=>.inl ((hS4.good.own (bL s.enter _ xe) (by simp[aX])).lt g hg).1)
      have hp5':PS C w5' j4 c ins 0:=hp4'.low hErb ((Fr.refl B [] w4').grown hgrow hB4 (fun g hg=>.inl ((hS4.good.own (bL s.enter _ xe) (by simp[aX])).lt g hg).1))
      have hb5:w5'.heap[sb]?=some (.cells (pG s.name s.first s.last (Value.slice ao s.enter.length cap) d l p y r) 256 (0,0)):=by
       rw[hgrow.block sb hl4 (fun e1=>by have:=((hS4.good.own (bL s.enter (Value.slice ao s.enter.length cap) xe) (by simp[aX])).lt sb e1.symm).1;omega)];exact hS4.at_
      obtain ⟨y5,zy5⟩:=dD hb5 3 (Value.slice ao s.enter.length cap) rfl
      have hp6':=hp5'.put hEne 3 (.slice (some ⟨gg,0,none⟩) (s.enter.length+l4.length) cap')
      have hF6:=hF5.setCell (p:=⟨sb,3,none⟩) (.inr (by simp)) (.slice (some ⟨gg,0,none⟩) (s.enter.length+l4.length) cap'))
   | (go_simp
      go_at_call 253
      refine (lO hp3').mono ?_
      rintro e1 w4' h4
      rcases h4.cases with ⟨f,hr4,q,rfl,hq⟩|⟨⟨l4,j4⟩,v4,hr4,rfl,⟨⟨xs4,hT4⟩,hlj4,hp4'⟩,hf4'⟩
      ·exact ⟨rfl,by rw[(HE _ hr4).out];exact aP.x ⟨q,rfl,hq⟩ ((hF2.x hEB).drew) hB2 (by simp)⟩
      have hpos4:=vR hLp hr4.out
      have hln4:=(jU _ _ _ _ _ hr4.out).1
      simp only[List.length_nil,Nat.add_zero] at hln4
      obtain ⟨g4,cap4,rfl⟩:=hT4.some hpos4
      have hS4:=hS2.carry hX hEne' (hdr.wide.up hf4')
      obtain ⟨y4,zy4⟩:=dD hS4.at_ 3 (Value.slice ao s.enter.length cap) rfl
      have hl4:=aB hS4.at_
      have hj4l:=hp4'.lt
      have hB4:B≤w4'.heap.size:=Nat.le_trans hB2 (hdr.wide.up hf4').size))
 all_goals
  go_wp2_with (go_at_call 132;refine (bK hp6' ⟨#[59]⟩ eP rfl (by decide)).mono ?_;rintro e1 w7 h7;rcases h7.cases with ⟨f,hr7,q,rfl,hq⟩|⟨_,v7,hr7,rfl,⟨rfl,hp7⟩,hf7⟩;(· exact ⟨rfl,by rw[(HE2 _ _ _ hr4 (rC hr7)).out];exact aP.x ⟨q,rfl,hq⟩ hF6 (by simp;have:=hF5.size;omega) (by simp)⟩))
  go_ret
  rw[(HO _ _ _ hr4 (aY7 hr7)).out]
  exact ⟨_,rfl,⟨rfl,by omega,⟨by simp;omega,by (show s.during.length≤j4+1);omega,by (show s.leave.length≤j4+1);omega,by (show s.ways.length≤j4+1);omega,by (show s.regions.length≤j4+1);omega⟩,hp7,⟨_,_,_,_,_,_,_,_,_,_,_,hS5.carry hX hEne' hf7⟩⟩,hF6.trans (hf7.x (by simp;have:=hF5.size;omega))⟩
theorem cH4 {C:dM}{k B sb ins i c:Nat}{w:World}{s:bM (St k)}{reg:Nat->Nat->Except F (List (St k)×Nat×Nat)}(h:PS C w i c ins 0) (hE:Ao C B sb w) (hS:I0 k B sb w s) (hb:Bd i s) (hw:tx C.L i=eC):Calls Tryz.prog 224 #[.pointer (some ⟨C.rb,0,none⟩),.pointer (some ⟨sb,0,none⟩)] w (kB B [C.rb,sb] (lL C k B sb ins i c s) w (Px.dP C.L (St k) reg s c i)):=by
 obtain ⟨i0,hi,hz0,hz1,hz2⟩:=info_parts Tryz.info325
 obtain ⟨e,d,l,p,y,r,xe,xd,xl,xy,xr,hS⟩:=hS
 have hl6:=h.wf.len
 have hil:=h.lt
 have hbe:=hb.e
 have hbd:=hb.d
 have hbl:=hb.l
 have hby:=hb.y
 have hbr:=hb.r
 obtain ⟨hErb,hEsb,hEne,hEB⟩:=hE
 have hEne':sb∉[C.rb]:=by simp;omega
 have hX:∀x∈[C.rb],x<B:=by simp;omega
 obtain ⟨tb,htb⟩:∃tb:ByteArray,Hid (bs tb=tx C.L i):=⟨⟨(tx C.L i).toArray⟩,rfl⟩
 have hoy:w.ownsRow B 325 2 d s.during.length xd:=hS.good.own (bL s.during d xd) (by simp[aX])
 obtain ⟨ao,cap,rfl⟩:=aL hoy
 have HL:Hid (cG (bs tb)=none):=by rw[Hid,htb.out,hw];decide
 have HY:Hid _:=hw
 have HN0:Hid (tx C.L i≠bs ⟨#[114,101,103,105,111,110]⟩):=by rw[Hid,hw];decide
 have HN1:Hid (tx C.L i≠bs ⟨#[101,110,116,114,121]⟩):=by rw[Hid,hw];decide
 have HE:∀f,Hid (sets C.L C.L.length [] (i+1)=.error f)->Hid (Px.dP C.L (St k) reg s c i=.error f):=fun f hr=>by rw[Hid,Px.dP,hw,show cG eC=none from by decide];simp only;rw[if_neg (show eC≠dC by decide),if_neg (show eC≠fN by decide),if_pos trivial,hr.out]
 have HE2:∀l j f,Hid (sets C.L C.L.length [] (i+1)=.ok (l,j))->nF C.L j=.error f->Hid (Px.dP C.L (St k) reg s c i=.error f):=fun l j f hr hs=>by rw[Hid,Px.dP,hw,show cG eC=none from by decide];simp only;rw[if_neg (show eC≠dC by decide),if_neg (show eC≠fN by decide),if_pos trivial,hr.out];simp only;rw[hs]
 have HO:∀l j m,Hid (sets C.L C.L.length [] (i+1)=.ok (l,j))->nF C.L j=.ok m->Hid (Px.dP C.L (St k) reg s c i=.ok (some ({ s with during:=s.during++l },c,m))):=fun l j m hr hs=>by rw[Hid,Px.dP,hw,show cG eC=none from by decide];simp only;rw[if_neg (show eC≠dC by decide),if_neg (show eC≠fN by decide),if_pos trivial,hr.out];simp only;rw[hs]
 have hLp:=h.wf.pos
 clear hw
 have T0:Hid True:=trivial
 have T1:Hid True:=trivial
 have T2:Hid True:=trivial
 have T3:Hid True:=trivial
 go_enter Tryz.func224,Tryz.ntmps224
 go_wp2_with (first
  | (go_at_call 137;refine (dX h tb htb).mono ?_;rintro e1 w1 ⟨rfl,hp1,hf1⟩)
  | (go_at_call 251;refine (iI hp1 tb _ HL).mono ?_;rintro e1 w2 ⟨rfl,hw2⟩;obtain rfl:=hw2.symm;rw[pR])
  | (go_at_call 140;clear T0;refine (bR hp1 ⟨#[114,101,103,105,111,110]⟩ HN0.out).mono ?_;rintro e1 w2 ⟨rfl,hp2,hf2⟩)
  | (go_at_call 140;clear T1;refine (bR hp2 ⟨#[101,110,116,114,121]⟩ HN1.out).mono ?_;rintro e1 w3 ⟨rfl,hp3,hf3⟩)
  | (go_at_call 140;clear T2;refine (dE hp3 ⟨#[100,117,114,105,110,103]⟩ HY.out (by decide)).mono ?_;rintro e1 w4 ⟨rfl,hp4,hf4⟩))
 have hS2:=(((hS.carry (X:=[]) (by simp) (by simp) hf1).carry (X:=[]) (by simp) (by simp) hf2).carry (X:=[]) (by simp) (by simp) hf3).carry hX hEne' hf4
 have hF2:=((((hf1.wide (X:=[C.rb])).up hf2.wide).up hf3.wide).up hf4)
 have hB2:=Nat.le_trans hEB hF2.size
 have hdr:Fr w4.heap.size [] w4 w4.drew:=(Fr.refl _ _ _).drew
 have hp3':=hp4.same hdr
 obtain ⟨y2,-⟩:=dD hS2.at_ 4 (Value.slice ao s.during.length cap) rfl
 go_region_law
  (first
   | (refine step_append_lies _ (by rfl) _ _ _ (by rfl) B 325 i0 _ 2 24 Tryz.underlying252 hi hz0 hz1 hz2 rfl (by omega) (Value.slice ao s.during.length cap) s.during.length xd (by rfl) (hS4.good.own (bL s.during _ xd) (by simp[aX]))
         ⟨g4,0,none⟩ l4.length cap4 xs4 (by rfl) hT4.own.1 (hT4.own.cells (g:=g4) rfl) (nO _ _ hT4.rows)
         hpos4 (by unfold maxLen;omega) (by omega) hB4 w4'.heap.size rfl ?_
      intro gg cap' w5' hown5 hgrow hat hlt5
      have hS5:=SU.grow_during (m:=l4) hS4 hEsb hB2 hS2.lts (hT4.rows.map (lK.carry lT)) (by rw[List.length_append];exact hown5) hgrow (by rcases hat with e1|e1;exact .inl e1.symm;exact .inr (by rw[e1];simp[Value.ownBlock]))
      have hF5:Fr B [C.rb,sb] w w5':=(((hF2.x hEB).trans ((hdr.wide.up hf4').x hB2))).grown hgrow hB4 (fun g hg=>.inl ((hS4.good.own (bL s.during _ xd) (by simp[aX])).lt g hg).1)
      have hp5':PS C w5' j4 c ins 0:=hp4'.low hErb ((Fr.refl B [] w4').grown hgrow hB4 (fun g hg=>.inl ((hS4.good.own (bL s.during _ xd) (by simp[aX])).lt g hg).1))
      have hb5:w5'.heap[sb]?=some (.cells (pG s.name s.first s.last e (Value.slice ao s.during.length cap) l p y r) 256 (0,0)):=by
       rw[hgrow.block sb hl4 (fun e1=>by have:=((hS4.good.own (bL s.during (Value.slice ao s.during.length cap) xd) (by simp[aX])).lt sb e1.symm).1;omega)];exact hS4.at_
      obtain ⟨y5,zy5⟩:=dD hb5 4 (Value.slice ao s.during.length cap) rfl
      have hp6':=hp5'.put hEne 4 (.slice (some ⟨gg,0,none⟩) (s.during.length+l4.length) cap')
      have hF6:=hF5.setCell (p:=⟨sb,4,none⟩) (.inr (by simp)) (.slice (some ⟨gg,0,none⟩) (s.during.length+l4.length) cap'))
   | (go_simp
      go_at_call 253
      refine (lO hp3').mono ?_
      rintro e1 w4' h4
      rcases h4.cases with ⟨f,hr4,q,rfl,hq⟩|⟨⟨l4,j4⟩,v4,hr4,rfl,⟨⟨xs4,hT4⟩,hlj4,hp4'⟩,hf4'⟩
      ·exact ⟨rfl,by rw[(HE _ hr4).out];exact aP.x ⟨q,rfl,hq⟩ ((hF2.x hEB).drew) hB2 (by simp)⟩
      have hpos4:=vR hLp hr4.out
      have hln4:=(jU _ _ _ _ _ hr4.out).1
      simp only[List.length_nil,Nat.add_zero] at hln4
      obtain ⟨g4,cap4,rfl⟩:=hT4.some hpos4
      have hS4:=hS2.carry hX hEne' (hdr.wide.up hf4')
      obtain ⟨y4,zy4⟩:=dD hS4.at_ 4 (Value.slice ao s.during.length cap) rfl
      have hl4:=aB hS4.at_
      have hj4l:=hp4'.lt
      have hB4:B≤w4'.heap.size:=Nat.le_trans hB2 (hdr.wide.up hf4').size))
 all_goals
  go_wp2_with (go_at_call 132;refine (bK hp6' ⟨#[59]⟩ eP rfl (by decide)).mono ?_;rintro e1 w7 h7;rcases h7.cases with ⟨f,hr7,q,rfl,hq⟩|⟨_,v7,hr7,rfl,⟨rfl,hp7⟩,hf7⟩;(· exact ⟨rfl,by rw[(HE2 _ _ _ hr4 (rC hr7)).out];exact aP.x ⟨q,rfl,hq⟩ hF6 (by simp;have:=hF5.size;omega) (by simp)⟩))
  go_ret
  rw[(HO _ _ _ hr4 (aY7 hr7)).out]
  exact ⟨_,rfl,⟨rfl,by omega,⟨by (show s.enter.length≤j4+1);omega,by simp;omega,by (show s.leave.length≤j4+1);omega,by (show s.ways.length≤j4+1);omega,by (show s.regions.length≤j4+1);omega⟩,hp7,⟨_,_,_,_,_,_,_,_,_,_,_,hS5.carry hX hEne' hf7⟩⟩,hF6.trans (hf7.x (by simp;have:=hF5.size;omega))⟩
theorem aF3 {C:dM}{k B sb ins i c:Nat}{w:World}{s:bM (St k)}{reg:Nat->Nat->Except F (List (St k)×Nat×Nat)}(h:PS C w i c ins 0) (hE:Ao C B sb w) (hS:I0 k B sb w s) (hb:Bd i s) (hw:tx C.L i=iK):Calls Tryz.prog 224 #[.pointer (some ⟨C.rb,0,none⟩),.pointer (some ⟨sb,0,none⟩)] w (kB B [C.rb,sb] (lL C k B sb ins i c s) w (Px.dP C.L (St k) reg s c i)):=by
 obtain ⟨i0,hi,hz0,hz1,hz2⟩:=info_parts Tryz.info325
 obtain ⟨e,d,l,p,y,r,xe,xd,xl,xy,xr,hS⟩:=hS
 have hl6:=h.wf.len
 have hil:=h.lt
 have hbe:=hb.e
 have hbd:=hb.d
 have hbl:=hb.l
 have hby:=hb.y
 have hbr:=hb.r
 obtain ⟨hErb,hEsb,hEne,hEB⟩:=hE
 have hEne':sb∉[C.rb]:=by simp;omega
 have hX:∀x∈[C.rb],x<B:=by simp;omega
 obtain ⟨tb,htb⟩:∃tb:ByteArray,Hid (bs tb=tx C.L i):=⟨⟨(tx C.L i).toArray⟩,rfl⟩
 have hoy:w.ownsRow B 325 2 l s.leave.length xl:=hS.good.own (bL s.leave l xl) (by simp[aX])
 obtain ⟨ao,cap,rfl⟩:=aL hoy
 have HL:Hid (cG (bs tb)=none):=by rw[Hid,htb.out,hw];decide
 have HY:Hid _:=hw
 have HN0:Hid (tx C.L i≠bs ⟨#[114,101,103,105,111,110]⟩):=by rw[Hid,hw];decide
 have HN1:Hid (tx C.L i≠bs ⟨#[101,110,116,114,121]⟩):=by rw[Hid,hw];decide
 have HN2:Hid (tx C.L i≠bs ⟨#[100,117,114,105,110,103]⟩):=by rw[Hid,hw];decide
 have HE:∀f,Hid (sets C.L C.L.length [] (i+1)=.error f)->Hid (Px.dP C.L (St k) reg s c i=.error f):=fun f hr=>by rw[Hid,Px.dP,hw,show cG iK=none from by decide];simp only;rw[if_neg (show iK≠dC by decide),if_neg (show iK≠fN by decide),if_neg (show iK≠eC by decide),if_pos trivial,hr.out]
 have HE2:∀l j f,Hid (sets C.L C.L.length [] (i+1)=.ok (l,j))->nF C.L j=.error f->Hid (Px.dP C.L (St k) reg s c i=.error f):=fun l j f hr hs=>by rw[Hid,Px.dP,hw,show cG iK=none from by decide];simp only;rw[if_neg (show iK≠dC by decide),if_neg (show iK≠fN by decide),if_neg (show iK≠eC by decide),if_pos trivial,hr.out];simp only;rw[hs]
 have HO:∀l j m,Hid (sets C.L C.L.length [] (i+1)=.ok (l,j))->nF C.L j=.ok m->Hid (Px.dP C.L (St k) reg s c i=.ok (some ({ s with leave:=s.leave++l },c,m))):=fun l j m hr hs=>by rw[Hid,Px.dP,hw,show cG iK=none from by decide];simp only;rw[if_neg (show iK≠dC by decide),if_neg (show iK≠fN by decide),if_neg (show iK≠eC by decide),if_pos trivial,hr.out];simp only;rw[hs]
 have hLp:=h.wf.pos
 clear hw
 have T0:Hid True:=trivial
 have T1:Hid True:=trivial
 have T2:Hid True:=trivial
 have T3:Hid True:=trivial
 have T4:Hid True:=trivial
 go_enter Tryz.func224,Tryz.ntmps224
 go_wp2_with (first
  | (go_at_call 137;refine (dX h tb htb).mono ?_;rintro e1 w1 ⟨rfl,hp1,hf1⟩)
  | (go_at_call 251;refine (iI hp1 tb _ HL).mono ?_;rintro e1 w2 ⟨rfl,hw2⟩;obtain rfl:=hw2.symm;rw[pR])
  | (go_at_call 140;clear T0;refine (bR hp1 ⟨#[114,101,103,105,111,110]⟩ HN0.out).mono ?_;rintro e1 w2 ⟨rfl,hp2,hf2⟩)
  | (go_at_call 140;clear T1;refine (bR hp2 ⟨#[101,110,116,114,121]⟩ HN1.out).mono ?_;rintro e1 w3 ⟨rfl,hp3,hf3⟩)
  | (go_at_call 140;clear T2;refine (bR hp3 ⟨#[100,117,114,105,110,103]⟩ HN2.out).mono ?_;rintro e1 w4 ⟨rfl,hp4,hf4⟩)
  | (go_at_call 140;clear T3;refine (dE hp4 ⟨#[101,120,105,116]⟩ HY.out (by decide)).mono ?_;rintro e1 w5 ⟨rfl,hp5,hf5⟩))
 have hS2:=((((hS.carry (X:=[]) (by simp) (by simp) hf1).carry (X:=[]) (by simp) (by simp) hf2).carry (X:=[]) (by simp) (by simp) hf3).carry (X:=[]) (by simp) (by simp) hf4).carry hX hEne' hf5
 have hF2:=(((((hf1.wide (X:=[C.rb])).up hf2.wide).up hf3.wide).up hf4.wide).up hf5)
 have hB2:=Nat.le_trans hEB hF2.size
 have hdr:Fr w5.heap.size [] w5 w5.drew:=(Fr.refl _ _ _).drew
 have hp3':=hp5.same hdr
 obtain ⟨y2,-⟩:=dD hS2.at_ 5 (Value.slice ao s.leave.length cap) rfl
 go_region_law
  (first
   | (refine step_append_lies _ (by rfl) _ _ _ (by rfl) B 325 i0 _ 2 24 Tryz.underlying252 hi hz0 hz1 hz2 rfl (by omega) (Value.slice ao s.leave.length cap) s.leave.length xl (by rfl) (hS4.good.own (bL s.leave _ xl) (by simp[aX]))
         ⟨g4,0,none⟩ l4.length cap4 xs4 (by rfl) hT4.own.1 (hT4.own.cells (g:=g4) rfl) (nO _ _ hT4.rows)
         hpos4 (by unfold maxLen;omega) (by omega) hB4 w4'.heap.size rfl ?_
      intro gg cap' w5' hown5 hgrow hat hlt5
      have hS5:=SU.grow_leave (m:=l4) hS4 hEsb hB2 hS2.lts (hT4.rows.map (lK.carry lT)) (by rw[List.length_append];exact hown5) hgrow (by rcases hat with e1|e1;exact .inl e1.symm;exact .inr (by rw[e1];simp[Value.ownBlock]))
      have hF5:Fr B [C.rb,sb] w w5':=(((hF2.x hEB).trans ((hdr.wide.up hf4').x hB2))).grown hgrow hB4 (fun g hg=>.inl ((hS4.good.own (bL s.leave _ xl) (by simp[aX])).lt g hg).1)
      have hp5':PS C w5' j4 c ins 0:=hp4'.low hErb ((Fr.refl B [] w4').grown hgrow hB4 (fun g hg=>.inl ((hS4.good.own (bL s.leave _ xl) (by simp[aX])).lt g hg).1))
      have hb5:w5'.heap[sb]?=some (.cells (pG s.name s.first s.last e d (Value.slice ao s.leave.length cap) p y r) 256 (0,0)):=by
       rw[hgrow.block sb hl4 (fun e1=>by have:=((hS4.good.own (bL s.leave (Value.slice ao s.leave.length cap) xl) (by simp[aX])).lt sb e1.symm).1;omega)];exact hS4.at_
      obtain ⟨y5,zy5⟩:=dD hb5 5 (Value.slice ao s.leave.length cap) rfl
      have hp6':=hp5'.put hEne 5 (.slice (some ⟨gg,0,none⟩) (s.leave.length+l4.length) cap')
      have hF6:=hF5.setCell (p:=⟨sb,5,none⟩) (.inr (by simp)) (.slice (some ⟨gg,0,none⟩) (s.leave.length+l4.length) cap'))
   | (go_simp
      go_at_call 253
      refine (lO hp3').mono ?_
      rintro e1 w4' h4
      rcases h4.cases with ⟨f,hr4,q,rfl,hq⟩|⟨⟨l4,j4⟩,v4,hr4,rfl,⟨⟨xs4,hT4⟩,hlj4,hp4'⟩,hf4'⟩
      ·exact ⟨rfl,by rw[(HE _ hr4).out];exact aP.x ⟨q,rfl,hq⟩ ((hF2.x hEB).drew) hB2 (by simp)⟩
      have hpos4:=vR hLp hr4.out
      have hln4:=(jU _ _ _ _ _ hr4.out).1
      simp only[List.length_nil,Nat.add_zero] at hln4
      obtain ⟨g4,cap4,rfl⟩:=hT4.some hpos4
      have hS4:=hS2.carry hX hEne' (hdr.wide.up hf4')
      obtain ⟨y4,zy4⟩:=dD hS4.at_ 5 (Value.slice ao s.leave.length cap) rfl
      have hl4:=aB hS4.at_
      have hj4l:=hp4'.lt
      have hB4:B≤w4'.heap.size:=Nat.le_trans hB2 (hdr.wide.up hf4').size))
 all_goals
  go_wp2_with (go_at_call 132;refine (bK hp6' ⟨#[59]⟩ eP rfl (by decide)).mono ?_;rintro e1 w7 h7;rcases h7.cases with ⟨f,hr7,q,rfl,hq⟩|⟨_,v7,hr7,rfl,⟨rfl,hp7⟩,hf7⟩;(· exact ⟨rfl,by rw[(HE2 _ _ _ hr4 (rC hr7)).out];exact aP.x ⟨q,rfl,hq⟩ hF6 (by simp;have:=hF5.size;omega) (by simp)⟩))
  go_ret
  rw[(HO _ _ _ hr4 (aY7 hr7)).out]
  exact ⟨_,rfl,⟨rfl,by omega,⟨by (show s.enter.length≤j4+1);omega,by (show s.during.length≤j4+1);omega,by simp;omega,by (show s.ways.length≤j4+1);omega,by (show s.regions.length≤j4+1);omega⟩,hp7,⟨_,_,_,_,_,_,_,_,_,_,_,hS5.carry hX hEne' hf7⟩⟩,hF6.trans (hf7.x (by simp;have:=hF5.size;omega))⟩
def Region (C:dM) (k:Nat):Prop:=∀(w:World) (i c ins:Nat),ins+k=6->PS C w i c ins 0->Calls Tryz.prog 141 #[.pointer (some ⟨C.rb,0,none⟩)] w (tI C (fun x v w'=>aJ (Ge w.heap.size) w' k x.1 v/\PS C w' x.2.2 x.2.1 ins 0) w (region C.L k c i))
theorem aJ.shape {A:Nat->Prop}{w:World}{k:Nat}{l:List (St k)}{v:Value}(h:aJ A w k l v):∃ao n cap,v=.slice ao n cap:=by
 cases k with
 | zero=>exact ⟨none,0,0,h.2⟩
 | succ k=>
  obtain ⟨xs,hr,_⟩:=h
  obtain ⟨ao,cap,rfl⟩:=aL hr.1
  exact ⟨ao,_,cap,rfl⟩
theorem rU (w:World) (a:Value) (t:TypeId):∀j u,[a][j]?=some u->(w.alloc (.cells #[a] t)).cell? ((⟨w.heap.size,0,none⟩:Addr).add j)=some u:=by
 intro j u hj
 match j,hj with
 | 0,hj=>simp at hj;subst hj;simp[Addr.add]
 | j+1,hj=>simp at hj
theorem bU1 {C:dM}{k B sb ins i c:Nat}{w:World}{s:bM (St k)}(h:PS C w i c ins 0) (hE:Ao C B sb w) (hS:I0 k B sb w s) (hb:Bd i s) (hR:Region C k) (hk:ins+k=6) (hlt:∀c i l c' j,region C.L k c i=.ok (l,c',j)->i<j) (hw:tx C.L i=dC):Calls Tryz.prog 224 #[.pointer (some ⟨C.rb,0,none⟩),.pointer (some ⟨sb,0,none⟩)] w (kB B [C.rb,sb] (lL C k B sb ins i c s) w (Px.dP C.L (St k) (region C.L k) s c i)):=by
 obtain ⟨i0,hi,hz0,hz1,hz2⟩:=info_parts Tryz.info210
 obtain ⟨e,d,l,p,y,r,xe,xd,xl,xy,xr,hS⟩:=hS
 have hl6:=h.wf.len
 have hil:=h.lt
 have hbe:=hb.e
 have hbd:=hb.d
 have hbl:=hb.l
 have hby:=hb.y
 have hbr:=hb.r
 obtain ⟨hErb,hEsb,hEne,hEB⟩:=hE
 have hEne':sb∉[C.rb]:=by simp;omega
 have hX:∀x∈[C.rb],x<B:=by simp;omega
 obtain ⟨tb,htb⟩:∃tb:ByteArray,Hid (bs tb=tx C.L i):=⟨⟨(tx C.L i).toArray⟩,rfl⟩
 have hoy:w.ownsRow B 210 1 r s.regions.length xr:=hS.good.own (dN k s.regions r xr) (by simp[aX])
 obtain ⟨ao,cap,rfl⟩:=aL hoy
 have HL:Hid (cG (bs tb)=none):=by rw[Hid,htb.out,hw];decide
 have HY:Hid _:=hw
 have HE:∀f,Hid (region C.L k c (i+1)=.error f)->Hid (Px.dP C.L (St k) (region C.L k) s c i=.error f):=fun f hr=>by rw[Hid,Px.dP,hw,show cG dC=none from by decide];simp only;rw[if_pos trivial,hr.out]
 have HO:∀l c' j,Hid (region C.L k c (i+1)=.ok (l,c',j))->Hid (Px.dP C.L (St k) (region C.L k) s c i=.ok (some ({ s with regions:=s.regions++[l] },c',j))):=fun l c' j hr=>by rw[Hid,Px.dP,hw,show cG dC=none from by decide];simp only;rw[if_pos trivial,hr.out]
 clear hw
 have T0:Hid True:=trivial
 have T1:Hid True:=trivial
 go_enter Tryz.func224,Tryz.ntmps224
 go_wp2_with (first
  | (go_at_call 137;refine (dX h tb htb).mono ?_;rintro e1 w1 ⟨rfl,hp1,hf1⟩)
  | (go_at_call 251;refine (iI hp1 tb _ HL).mono ?_;rintro e1 w2 ⟨rfl,hw2⟩;obtain rfl:=hw2.symm;rw[pR])
  | (go_at_call 140;clear T0;refine (dE hp1 ⟨#[114,101,103,105,111,110]⟩ HY.out (by decide)).mono ?_;rintro e1 w2 ⟨rfl,hp2,hf2⟩))
 have hS2:=(hS.carry (X:=[]) (by simp) (by simp) hf1).carry hX hEne' hf2
 have hF2:=((hf1.wide (X:=[C.rb])).up hf2)
 have hB2:=Nat.le_trans hEB hF2.size
 have hdr:Fr w2.heap.size [] w2 w2.drew:=(Fr.refl _ _ _).drew
 have hp3':=hp2.same hdr
 obtain ⟨y2,-⟩:=dD hS2.at_ 8 (Value.slice ao s.regions.length cap) rfl
 go_region_law
  (first
   | (refine step_append_lies _ (by rfl) _ _ _ (by rfl) B 210 i0 _ 1 24 Tryz.underlying50 hi hz0 hz1 hz2 rfl (by omega) (Value.slice ao s.regions.length cap) s.regions.length xr (by rfl) (hA4.good.own (dN k s.regions _ xr) (by simp[aX]))
         ⟨w4'.heap.size,0,none⟩ 1 1 [.slice ao4 n4 cap4] (by rfl) (by rfl) (rU w4' _ 210) (by intro u hu;simp at hu;subst hu;rfl)
         (by omega) (by unfold maxLen;omega) (by omega) (by simp;omega) (w4'.heap.size+1) (by simp) ?_
      intro gg cap' w5' hown5 hgrow hat hlt5
      have hS5:=SU.grow_regions (a:=a4) (u:=.slice ao4 n4 cap4) hA4 hEsb hB2 hS2.lts ⟨rfl,aJ.carry (aY (X:=[]) (by simp) hal) k _ _ hv4⟩ (by rw[List.length_append];exact hown5) hgrow (by rcases hat with e1|e1;exact .inl e1.symm;exact .inr (by rw[e1];simp[Value.ownBlock]))
      have hF5:Fr B [C.rb,sb] w w5':=((((hF2.x hEB).trans ((hdr.wide.up hf4').x hB2)).alloc hB4 _).grown hgrow (by simp;omega) (fun g hg=>.inl ((hA4.good.own (dN k s.regions _ xr) (by simp[aX])).lt g hg).1))
      have hp5':PS C w5' j4 c4 ins 0:=hp4'.low hErb (((Fr.refl B [] w4').alloc hB4 _).grown hgrow (by simp;omega) (fun g hg=>.inl ((hA4.good.own (dN k s.regions _ xr) (by simp[aX])).lt g hg).1))
      have hb5:w5'.heap[sb]?=some (.cells (pG s.name s.first s.last e d l p y (Value.slice ao s.regions.length cap)) 256 (0,0)):=by
       rw[hgrow.block sb (by simp;omega) (fun e1=>by have:=((hA4.good.own (dN k s.regions (Value.slice ao s.regions.length cap) xr) (by simp[aX])).lt sb e1.symm).1;omega)];exact hA4.at_
      obtain ⟨y5,zy5⟩:=dD hb5 8 (Value.slice ao s.regions.length cap) rfl)
   | (go_simp
      go_at_call 141
      refine (hR _ (i+1) c ins hk hp3').mono ?_
      rintro e1 w4' h4
      rcases h4.cases with ⟨f,hr4,q,rfl,hq⟩|⟨⟨a4,c4,j4⟩,v4,hr4,rfl,⟨hv4,hp4'⟩,hf4'⟩
      ·exact ⟨rfl,by rw[(HE _ hr4).out];exact aP.x ⟨q,rfl,hq⟩ ((hF2.x hEB).drew) hB2 (by simp)⟩
      obtain ⟨ao4,n4,cap4,rfl⟩:=aJ.shape hv4
      have hj4:=hlt _ _ _ _ _ hr4.out
      have hS4:=hS2.carry hX hEne' (hdr.wide.up hf4')
      obtain ⟨y4,zy4⟩:=dD hS4.at_ 8 (Value.slice ao s.regions.length cap) rfl
      have hl4:=aB hS4.at_
      have hB4:B≤w4'.heap.size:=Nat.le_trans hB2 (hdr.wide.up hf4').size
      have hal:Fr w4'.heap.size [] w4' (w4'.alloc (.cells #[.slice ao4 n4 cap4] 210)):=(Fr.refl _ _ _).alloc (Nat.le_refl _) _
      have hA4:=hS4.carry (X:=[]) (by simp) (by simp) hal))
 all_goals
  go_wp2_with fail
  go_ret
  rw[(HO _ _ _ hr4).out]
  exact ⟨_,rfl,⟨rfl,by omega,⟨by (show s.enter.length≤j4);omega,by (show s.during.length≤j4);omega,by (show s.leave.length≤j4);omega,by (show s.ways.length≤j4);omega,by simp;omega⟩,hp5'.put hEne _ _,⟨_,_,_,_,_,_,_,_,_,_,_,hS5⟩⟩,hF5.setCell (.inr (by simp)) _⟩
theorem aF1 {C:dM}{k B sb ins i c:Nat}{w:World}{s:bM (St k)}{reg:Nat->Nat->Except F (List (St k)×Nat×Nat)}(h:PS C w i c ins 0) (hE:Ao C B sb w) (hS:I0 k B sb w s) (hb:Bd i s) (hw:tx C.L i=cL) (hre:s.rests≠.nil):Calls Tryz.prog 224 #[.pointer (some ⟨C.rb,0,none⟩),.pointer (some ⟨sb,0,none⟩)] w (kB B [C.rb,sb] (lL C k B sb ins i c s) w (Px.dP C.L (St k) reg s c i)):=by
 obtain ⟨e,d,l,p,y,r,xe,xd,xl,xy,xr,hS⟩:=hS
 have hl6:=h.wf.len
 have hil:=h.lt
 have hbe:=hb.e
 have hbd:=hb.d
 have hbl:=hb.l
 have hby:=hb.y
 have hbr:=hb.r
 obtain ⟨hErb,hEsb,hEne,hEB⟩:=hE
 have hEne':sb∉[C.rb]:=by simp;omega
 have hX:∀x∈[C.rb],x<B:=by simp;omega
 obtain ⟨tb,htb⟩:∃tb:ByteArray,Hid (bs tb=tx C.L i):=⟨⟨(tx C.L i).toArray⟩,rfl⟩
 have HL:Hid (cG (bs tb)=none):=by rw[Hid,htb.out,hw];decide
 have HY:Hid _:=hw
 have HN0:Hid (tx C.L i≠bs ⟨#[114,101,103,105,111,110]⟩):=by rw[Hid,hw];decide
 have HN1:Hid (tx C.L i≠bs ⟨#[101,110,116,114,121]⟩):=by rw[Hid,hw];decide
 have HN2:Hid (tx C.L i≠bs ⟨#[100,117,114,105,110,103]⟩):=by rw[Hid,hw];decide
 have HN3:Hid (tx C.L i≠bs ⟨#[101,120,105,116]⟩):=by rw[Hid,hw];decide
 have hpp:iR (qL B (aX k s e d l p y r xe xd xl xy xr)) w s.rests p:=hS.good.has (jJ s.rests p) (by simp[aX])
 obtain ⟨gp,hgp⟩:∃gp,p=.pointer (some gp):=by
  cases hr:s.rests with
  | nil=>exact absurd hr hre
  | node b o a l r=>rw[hr] at hpp;obtain ⟨g,lv,rv,hpv,_⟩:=hpp;exact ⟨_,hpv⟩
 have HO:Hid (Px.dP C.L (St k) reg s c i=.error (9,pl C.L (i+1))):=by
  rw[Hid,Px.dP,hw,show cG cL=none from by decide];simp only;rw[if_neg (show cL≠dC by decide),if_neg (show cL≠fN by decide),if_neg (show cL≠eC by decide),if_neg (show cL≠iK by decide),if_pos trivial]
  cases hr:s.rests with
  | nil=>exact absurd hr hre
  | node b o a l r=>rfl
 clear hpp
 subst hgp
 clear hw hre
 have T0:Hid True:=trivial
 have T1:Hid True:=trivial
 have T2:Hid True:=trivial
 have T3:Hid True:=trivial
 have T4:Hid True:=trivial
 have T5:Hid True:=trivial
 go_enter Tryz.func224,Tryz.ntmps224
 go_wp2_with (first
  | (go_at_call 137;refine (dX h tb htb).mono ?_;rintro e1 w1 ⟨rfl,hp1,hf1⟩)
  | (go_at_call 251;refine (iI hp1 tb _ HL).mono ?_;rintro e1 w2 ⟨rfl,hw2⟩;obtain rfl:=hw2.symm;rw[pR])
  | (go_at_call 140;clear T0;refine (bR hp1 ⟨#[114,101,103,105,111,110]⟩ HN0.out).mono ?_;rintro e1 w2 ⟨rfl,hp2,hf2⟩)
  | (go_at_call 140;clear T1;refine (bR hp2 ⟨#[101,110,116,114,121]⟩ HN1.out).mono ?_;rintro e1 w3 ⟨rfl,hp3,hf3⟩)
  | (go_at_call 140;clear T2;refine (bR hp3 ⟨#[100,117,114,105,110,103]⟩ HN2.out).mono ?_;rintro e1 w4 ⟨rfl,hp4,hf4⟩)
  | (go_at_call 140;clear T3;refine (bR hp4 ⟨#[101,120,105,116]⟩ HN3.out).mono ?_;rintro e1 w5 ⟨rfl,hp5,hf5⟩)
  | (go_at_call 140;clear T4;refine (dE hp5 ⟨#[115,117,115,112,101,110,100]⟩ HY.out (by decide)).mono ?_;rintro e1 w6 ⟨rfl,hp6,hf6⟩;have hS6:=(((((hS.carry (X:=[]) (by simp) (by simp) hf1).carry (X:=[]) (by simp) (by simp) hf2).carry (X:=[]) (by simp) (by simp) hf3).carry (X:=[]) (by simp) (by simp) hf4).carry (X:=[]) (by simp) (by simp) hf5).carry hX hEne' hf6;obtain ⟨y2,-⟩:=dD hS6.at_ 6 (Value.pointer (some gp)) rfl)
  | (go_at_call 142;refine (gB hp6 9).mono ?_;rintro e1 w7 ⟨q,rfl,hq⟩;exact ⟨rfl,by rw[HO.out];exact aP.x ⟨q,rfl,hq⟩ (((((((hf1.wide (X:=[C.rb])).up hf2.wide).up hf3.wide).up hf4.wide).up hf5.wide).up hf6).x hEB) (Nat.le_trans hEB ((((((hf1.wide (X:=[C.rb])).up hf2.wide).up hf3.wide).up hf4.wide).up hf5.wide).up hf6).size) (by simp)⟩))
theorem aF2 {C:dM}{k B sb ins i c:Nat}{w:World}{s:bM (St k)}{reg:Nat->Nat->Except F (List (St k)×Nat×Nat)}(h:PS C w i c ins 0) (hE:Ao C B sb w) (hS:I0 k B sb w s) (hb:Bd i s) (hw:tx C.L i=cL) (hre:s.rests=.nil):Calls Tryz.prog 224 #[.pointer (some ⟨C.rb,0,none⟩),.pointer (some ⟨sb,0,none⟩)] w (kB B [C.rb,sb] (lL C k B sb ins i c s) w (Px.dP C.L (St k) reg s c i)):=by
 obtain ⟨e,d,l,p,y,r,xe,xd,xl,xy,xr,hS⟩:=hS
 have hl6:=h.wf.len
 have hil:=h.lt
 have hbe:=hb.e
 have hbd:=hb.d
 have hbl:=hb.l
 have hby:=hb.y
 have hbr:=hb.r
 obtain ⟨hErb,hEsb,hEne,hEB⟩:=hE
 have hEne':sb∉[C.rb]:=by simp;omega
 have hX:∀x∈[C.rb],x<B:=by simp;omega
 obtain ⟨tb,htb⟩:∃tb:ByteArray,Hid (bs tb=tx C.L i):=⟨⟨(tx C.L i).toArray⟩,rfl⟩
 have HL:Hid (cG (bs tb)=none):=by rw[Hid,htb.out,hw];decide
 have HY:Hid _:=hw
 have HN0:Hid (tx C.L i≠bs ⟨#[114,101,103,105,111,110]⟩):=by rw[Hid,hw];decide
 have HN1:Hid (tx C.L i≠bs ⟨#[101,110,116,114,121]⟩):=by rw[Hid,hw];decide
 have HN2:Hid (tx C.L i≠bs ⟨#[100,117,114,105,110,103]⟩):=by rw[Hid,hw];decide
 have HN3:Hid (tx C.L i≠bs ⟨#[101,120,105,116]⟩):=by rw[Hid,hw];decide
 have hpp:iR (qL B (aX k s e d l p y r xe xd xl xy xr)) w s.rests p:=hS.good.has (jJ s.rests p) (by simp[aX])
 have hp0:p=.pointer none:=by rw[hre] at hpp;exact hpp
 clear hpp
 subst hp0
 have HE:∀f,Hid (eF C.L (i+1)=.error f)->Hid (Px.dP C.L (St k) reg s c i=.error f):=fun f hr=>by rw[Hid,Px.dP,hw,show cG cL=none from by decide];simp only;rw[if_neg (show cL≠dC by decide),if_neg (show cL≠fN by decide),if_neg (show cL≠eC by decide),if_neg (show cL≠iK by decide),if_pos trivial,hre];simp only;rw[hr.out]
 have HE2:∀t j f,Hid (eF C.L (i+1)=.ok (t,j))->nF C.L j=.error f->Hid (Px.dP C.L (St k) reg s c i=.error f):=fun t j f hr hs=>by rw[Hid,Px.dP,hw,show cG cL=none from by decide];simp only;rw[if_neg (show cL≠dC by decide),if_neg (show cL≠fN by decide),if_neg (show cL≠eC by decide),if_neg (show cL≠iK by decide),if_pos trivial,hre];simp only;rw[hr.out];simp only;rw[hs]
 have HO:∀t j m,Hid (eF C.L (i+1)=.ok (t,j))->nF C.L j=.ok m->Hid (Px.dP C.L (St k) reg s c i=.ok (some ({ s with rests:=t },c,m))):=fun t j m hr hs=>by rw[Hid,Px.dP,hw,show cG cL=none from by decide];simp only;rw[if_neg (show cL≠dC by decide),if_neg (show cL≠fN by decide),if_neg (show cL≠eC by decide),if_neg (show cL≠iK by decide),if_pos trivial,hre];simp only;rw[hr.out];simp only;rw[hs]
 clear hw hre
 have T0:Hid True:=trivial
 have T1:Hid True:=trivial
 have T2:Hid True:=trivial
 have T3:Hid True:=trivial
 have T4:Hid True:=trivial
 have T5:Hid True:=trivial
 go_enter Tryz.func224,Tryz.ntmps224
 go_wp2_with (first
  | (go_at_call 137;refine (dX h tb htb).mono ?_;rintro e1 w1 ⟨rfl,hp1,hf1⟩)
  | (go_at_call 251;refine (iI hp1 tb _ HL).mono ?_;rintro e1 w2 ⟨rfl,hw2⟩;obtain rfl:=hw2.symm;rw[pR])
  | (go_at_call 140;clear T0;refine (bR hp1 ⟨#[114,101,103,105,111,110]⟩ HN0.out).mono ?_;rintro e1 w2 ⟨rfl,hp2,hf2⟩)
  | (go_at_call 140;clear T1;refine (bR hp2 ⟨#[101,110,116,114,121]⟩ HN1.out).mono ?_;rintro e1 w3 ⟨rfl,hp3,hf3⟩)
  | (go_at_call 140;clear T2;refine (bR hp3 ⟨#[100,117,114,105,110,103]⟩ HN2.out).mono ?_;rintro e1 w4 ⟨rfl,hp4,hf4⟩)
  | (go_at_call 140;clear T3;refine (bR hp4 ⟨#[101,120,105,116]⟩ HN3.out).mono ?_;rintro e1 w5 ⟨rfl,hp5,hf5⟩)
  | (go_at_call 140;clear T4;refine (dE hp5 ⟨#[115,117,115,112,101,110,100]⟩ HY.out (by decide)).mono ?_;rintro e1 w6 ⟨rfl,hp6,hf6⟩;have hS6:=(((((hS.carry (X:=[]) (by simp) (by simp) hf1).carry (X:=[]) (by simp) (by simp) hf2).carry (X:=[]) (by simp) (by simp) hf3).carry (X:=[]) (by simp) (by simp) hf4).carry (X:=[]) (by simp) (by simp) hf5).carry hX hEne' hf6;obtain ⟨y2,-⟩:=dD hS6.at_ 6 (Value.pointer none) rfl;have hF6:=((((((hf1.wide (X:=[C.rb])).up hf2.wide).up hf3.wide).up hf4.wide).up hf5.wide).up hf6);have hB6:=Nat.le_trans hEB hF6.size)
  | (go_at_call 254;refine (jW hp6).mono ?_;rintro e1 w7 h7;rcases h7.cases with ⟨f,hr7,q,rfl,hq⟩|⟨⟨t7,j7⟩,v7,hr7,rfl,⟨hv7,hp7⟩,hf7⟩;(· exact ⟨rfl,by rw[(HE _ hr7).out];exact aP.x ⟨q,rfl,hq⟩ (hF6.x hEB) hB6 (by simp)⟩);obtain ⟨u7,rfl⟩:=hv7.ptr;have hS7:=hS6.carry hX hEne' hf7;obtain ⟨y7,z7⟩:=dD hS7.at_ 6 (Value.pointer none) rfl;have hS8:=SU.grow_rests hS7 hEsb hB6 hS6.lts hv7;have hj7:=pC hr7;have hp8:=hp7.put hEne 6 (.pointer u7);have hF7:Fr B [C.rb,sb] w w7:=(hF6.x hEB).trans (hf7.x hB6);have hB7:=hf7.size;have hF8:=hF7.setCell (p:=⟨sb,6,none⟩) (.inr (by simp)) (.pointer u7))
  | (go_at_call 132;refine (bK hp8 ⟨#[59]⟩ eP rfl (by decide)).mono ?_;rintro e1 w9 h9;rcases h9.cases with ⟨f,hr9,q,rfl,hq⟩|⟨_,v9,hr9,rfl,⟨rfl,hp9⟩,hf9⟩;(· exact ⟨rfl,by rw[(HE2 _ _ _ hr7 (rC hr9)).out];exact aP.x ⟨q,rfl,hq⟩ hF8 (by simp;omega) (by simp)⟩)))
 go_ret
 rw[(HO _ _ _ hr7 (aY7 hr9)).out]
 exact ⟨_,rfl,⟨rfl,by omega,⟨by (show s.enter.length≤j7+1);omega,by (show s.during.length≤j7+1);omega,by (show s.leave.length≤j7+1);omega,by (show s.ways.length≤j7+1);omega,by (show s.regions.length≤j7+1);omega⟩,hp9,⟨_,_,_,_,_,_,_,_,_,_,_,hS8.carry hX hEne' hf9⟩⟩,hF8.trans (hf9.x (by simp;omega))⟩
theorem aS3 {C:dM}{k B sb ins i c:Nat}{w:World}{s:bM (St k)}{reg:Nat->Nat->Except F (List (St k)×Nat×Nat)}(h:PS C w i c ins 0) (hE:Ao C B sb w) (hS:I0 k B sb w s) (hb:Bd i s) (hl:cG (tx C.L i)=none) (hn0:tx C.L i≠dC) (hn1:tx C.L i≠fN) (hn2:tx C.L i≠eC) (hn3:tx C.L i≠iK) (hn4:tx C.L i≠cL):Calls Tryz.prog 224 #[.pointer (some ⟨C.rb,0,none⟩),.pointer (some ⟨sb,0,none⟩)] w (kB B [C.rb,sb] (lL C k B sb ins i c s) w (Px.dP C.L (St k) reg s c i)):=by
 obtain ⟨e,d,l,p,y,r,xe,xd,xl,xy,xr,hS⟩:=hS
 have hl6:=h.wf.len
 have hil:=h.lt
 have hbe:=hb.e
 have hbd:=hb.d
 have hbl:=hb.l
 have hby:=hb.y
 have hbr:=hb.r
 obtain ⟨hErb,hEsb,hEne,hEB⟩:=hE
 have hEne':sb∉[C.rb]:=by simp;omega
 have hX:∀x∈[C.rb],x<B:=by simp;omega
 obtain ⟨tb,htb⟩:∃tb:ByteArray,Hid (bs tb=tx C.L i):=⟨⟨(tx C.L i).toArray⟩,rfl⟩
 have HL:Hid (cG (bs tb)=none):=by rw[Hid,htb.out];exact hl
 have HO:Hid (Px.dP C.L (St k) reg s c i=.ok none):=by rw[Hid,Px.dP,hl];simp only;rw[if_neg hn0,if_neg hn1,if_neg hn2,if_neg hn3,if_neg hn4]
 have HN0:Hid _:=hn0
 have HN1:Hid _:=hn1
 have HN2:Hid _:=hn2
 have HN3:Hid _:=hn3
 have HN4:Hid _:=hn4
 clear hl hn0 hn1 hn2 hn3 hn4
 have T0:Hid True:=trivial
 have T1:Hid True:=trivial
 have T2:Hid True:=trivial
 have T3:Hid True:=trivial
 have T4:Hid True:=trivial
 have T5:Hid True:=trivial
 go_enter Tryz.func224,Tryz.ntmps224
 go_wp2_with (first
  | (go_at_call 137;refine (dX h tb htb).mono ?_;rintro e1 w1 ⟨rfl,hp1,hf1⟩)
  | (go_at_call 251;refine (iI hp1 tb _ HL).mono ?_;rintro e1 w2 ⟨rfl,hw2⟩;obtain rfl:=hw2.symm;rw[pR])
  | (go_at_call 140;clear T0;refine (bR hp1 ⟨#[114,101,103,105,111,110]⟩ HN0.out).mono ?_;rintro e1 w2 ⟨rfl,hp2,hf2⟩)
  | (go_at_call 140;clear T1;refine (bR hp2 ⟨#[101,110,116,114,121]⟩ HN1.out).mono ?_;rintro e1 w3 ⟨rfl,hp3,hf3⟩)
  | (go_at_call 140;clear T2;refine (bR hp3 ⟨#[100,117,114,105,110,103]⟩ HN2.out).mono ?_;rintro e1 w4 ⟨rfl,hp4,hf4⟩)
  | (go_at_call 140;clear T3;refine (bR hp4 ⟨#[101,120,105,116]⟩ HN3.out).mono ?_;rintro e1 w5 ⟨rfl,hp5,hf5⟩)
  | (go_at_call 140;clear T4;refine (bR hp5 ⟨#[115,117,115,112,101,110,100]⟩ HN4.out).mono ?_;rintro e1 w6 ⟨rfl,hp6,hf6⟩))
 go_ret
 rw[HO.out]
 exact ⟨_,rfl,⟨rfl,hp6,⟨_,_,_,_,_,_,_,_,_,_,_,(((((hS.carry (X:=[]) (by simp) (by simp) hf1).carry (X:=[]) (by simp) (by simp) hf2).carry (X:=[]) (by simp) (by simp) hf3).carry (X:=[]) (by simp) (by simp) hf4).carry (X:=[]) (by simp) (by simp) hf5).carry hX hEne' hf6.wide⟩⟩,((((((hf1.wide (X:=[C.rb])).up hf2.wide).up hf3.wide).up hf4.wide).up hf5.wide).up hf6.wide).x hEB⟩
theorem bE4 {C:dM}{k B sb ins i c:Nat}{w:World}{s:bM (St k)}(h:PS C w i c ins 0) (hE:Ao C B sb w) (hS:I0 k B sb w s) (hb:Bd i s) (hR:Region C k) (hk:ins+k=6) (hlt:∀c i l c' j,region C.L k c i=.ok (l,c',j)->i<j):Calls Tryz.prog 224 #[.pointer (some ⟨C.rb,0,none⟩),.pointer (some ⟨sb,0,none⟩)] w (kB B [C.rb,sb] (lL C k B sb ins i c s) w (Px.dP C.L (St k) (region C.L k) s c i)):=by
 cases hl:cG (tx C.L i) with
 | some kd=>exact bE3 h hE hS hb kd hl
 | none=>
  by_cases h0:tx C.L i=dC
  ·exact bU1 h hE hS hb hR hk hlt h0
  ·by_cases h1:tx C.L i=fN
   ·exact aF4 h hE hS hb h1
   ·by_cases h2:tx C.L i=eC
    ·exact cH4 h hE hS hb h2
    ·by_cases h3:tx C.L i=iK
     ·exact aF3 h hE hS hb h3
     ·by_cases h4:tx C.L i=cL
      ·cases hr:s.rests with
       | nil=>exact aF2 h hE hS hb h4 hr
       | node b o a l r=>exact aF1 h hE hS hb h4 (by rw[hr];simp)
      ·exact aS3 h hE hS hb hl h0 h1 h2 h3 h4
end Go.Proofs.YtcdbhoknhnimcaaGreatDoor
