import Derived.Test.YthieaobjdpfcoaaGreatDoorVPstate
set_option maxRecDepth 100000
set_option maxHeartbeats 16000000
namespace Go.Proofs.YthieaobjdpfcoaaGreatDoor
open Go.Proofs.Tryz (prog)
section
open Go.RowKit Px
theorem Dq {C:dV}{k sb ins i c:Nat}{w:World}{y la:Bool}(h:PS C w i c ins 0) (ae:C.rb<sb) (u:w.heap[sb]?=some (.cells (rA [] y la (.slice none 0 0) (.slice none 0 0) (.slice none 0 0) (.pointer none) (.slice none 0 0) (.slice none 0 0)) 223 (0,0))) (hc:24≤c):Calls prog 151 #[.pointer (some ⟨C.rb,0,none⟩),.pointer (some ⟨sb,0,none⟩)] w (lS w.heap.size [C.rb,sb] (Uy C k (w.heap.size+2) sb ins) w (cP C.L (St k) (aW C.L k) y la c i)):=by
 have hC:=h.lts.1
 have O:=aB u
 obtain ⟨Z,D⟩:=h.alloc (.cells #[.pointer (some ⟨C.rb,0,none⟩)] 168)
 obtain ⟨X,I⟩:=Z.alloc (.cells #[.pointer (some ⟨sb,0,none⟩)] 225)
 have r:=D.up I
 have ac:((w.alloc (.cells #[.pointer (some ⟨C.rb,0,none⟩)] 168)).alloc (.cells #[.pointer (some ⟨sb,0,none⟩)] 225)).heap.size=w.heap.size+2:=by simp
 have aa:wX C (w.heap.size+2) sb w.heap.size (w.heap.size+1) ((w.alloc (.cells #[.pointer (some ⟨C.rb,0,none⟩)] 168)).alloc (.cells #[.pointer (some ⟨sb,0,none⟩)] 225)):=⟨by simp,by simp,by omega,by omega,by simp;omega,by simp;omega⟩
 have U:((w.alloc (.cells #[.pointer (some ⟨C.rb,0,none⟩)] 168)).alloc (.cells #[.pointer (some ⟨sb,0,none⟩)] 225)).heap[sb]?=some (.cells (rA [] y la (.slice none 0 0) (.slice none 0 0) (.slice none 0 0) (.pointer none) (.slice none 0 0) (.slice none 0 0)) 223 (0,0)):=by rw[r.block sb O (by simp;omega)];exact u
 have ab:sb∉[C.rb]:=by simp;omega
 go_enter Tryz.func151,Tryz.ntmps151
 go_wp2_with (go_at_call 101;refine (cD X ⟨#[115,116,97,116,101]⟩ gZ rfl (by decide)).mono ?_;rintro e w1 h1;rcases h1.cases with ⟨f,l,q,rfl,J⟩|⟨_,v1,l,rfl,⟨rfl,s⟩,n⟩;(· exact ⟨rfl,by rw[cP,if_neg (aV l).1,<-(aV l).2];exact aR.x ⟨q,rfl,J⟩ (r.x (aO4 _)) (by omega) (by simp)⟩))
 have hx1:=aa.carry (n.x (by omega))
 have af:w1.heap[sb]?=some (.cells (rA [] y la (.slice none 0 0) (.slice none 0 0) (.slice none 0 0) (.pointer none) (.slice none 0 0) (.slice none 0 0)) 223 (0,0)):=by rw[n.block sb (by omega) ab];exact U
 have Q:=r.up n
 have ad:=n.size
 have x1:=hx1.a
 obtain ⟨-,-,c2,-⟩:=s.cells
 have hdr:Fr w1.heap.size [] w1 w1.drew:=(Fr.refl _ _ _).drew
 have Y:=s.same hdr
 go_still_tail 5,(by kernel_rfl)
 go_wp2_with (go_at_call 107;refine (nZ Y c 24 hc).mono ?_;rintro e w2 ⟨q,rfl,J⟩;exact ⟨rfl,by rw[cP,if_pos (bJ l),if_pos hc];exact aR.x ⟨q,rfl,J⟩ ((Q.x (aO4 _)).drew) (by (show w.heap.size≤w1.heap.size);omega) (by simp)⟩)
theorem Dp {C:dV}{k sb ins i c:Nat}{w:World}{u la:Bool}(h:PS C w i c ins 0) (ap:C.rb<sb) (aj:w.heap[sb]?=some (.cells (rA [] u la (.slice none 0 0) (.slice none 0 0) (.slice none 0 0) (.pointer none) (.slice none 0 0) (.slice none 0 0)) 223 (0,0))) (hc:c<24) (ab:tx C.L (i+2)=fE):Calls prog 151 #[.pointer (some ⟨C.rb,0,none⟩),.pointer (some ⟨sb,0,none⟩)] w (lS w.heap.size [C.rb,sb] (Uy C k (w.heap.size+2) sb ins) w (cP C.L (St k) (aW C.L k) u la c i)):=by
 have hC:=h.lts.1
 have az:=aB aj
 obtain ⟨bh,am⟩:=h.alloc (.cells #[.pointer (some ⟨C.rb,0,none⟩)] 168)
 obtain ⟨bf,ax⟩:=bh.alloc (.cells #[.pointer (some ⟨sb,0,none⟩)] 225)
 have U:=am.up ax
 have bm:((w.alloc (.cells #[.pointer (some ⟨C.rb,0,none⟩)] 168)).alloc (.cells #[.pointer (some ⟨sb,0,none⟩)] 225)).heap.size=w.heap.size+2:=by simp
 have aw:wX C (w.heap.size+2) sb w.heap.size (w.heap.size+1) ((w.alloc (.cells #[.pointer (some ⟨C.rb,0,none⟩)] 168)).alloc (.cells #[.pointer (some ⟨sb,0,none⟩)] 225)):=⟨by simp,by simp,by omega,by omega,by simp;omega,by simp;omega⟩
 have bb:((w.alloc (.cells #[.pointer (some ⟨C.rb,0,none⟩)] 168)).alloc (.cells #[.pointer (some ⟨sb,0,none⟩)] 225)).heap[sb]?=some (.cells (rA [] u la (.slice none 0 0) (.slice none 0 0) (.slice none 0 0) (.pointer none) (.slice none 0 0) (.slice none 0 0)) 223 (0,0)):=by rw[U.block sb az (by simp;omega)];exact aj
 have y:sb∉[C.rb]:=by simp;omega
 have bn:∀(fn:Fn) (first cap:Array Value) (w:World),(Instr.makeFunc fn first cap).run prog w=.ok (.func fn first cap) w:=fun _ _ _ _=>rfl
 have HO:∀s,Hid (nm C.L (i+1)=.ok s)->tx C.L i=gZ->Hid (cP C.L (St k) (aW C.L k) u la c i=.ok (⟨s,u,la,[],[],[],.nil,[],[]⟩,c+1,i+3)):=fun s hs ht=>by rw[Hid,cP,if_pos ht,if_neg (by omega),hs.out];simp only;rw[if_pos ab]
 have HE:∀f,Hid (nm C.L (i+1)=.error f)->tx C.L i=gZ->Hid (cP C.L (St k) (aW C.L k) u la c i=.error f):=fun f hs ht=>by rw[Hid,cP,if_pos ht,if_neg (by omega),hs.out]
 have be:Hid _:=ab
 clear ab
 go_enter Tryz.func151,Tryz.ntmps151
 go_wp2_with (go_at_call 101;refine (cD bf ⟨#[115,116,97,116,101]⟩ gZ rfl (by decide)).mono ?_;rintro e w1 h1;rcases h1.cases with ⟨f,n,q,rfl,hq⟩|⟨_,v1,n,rfl,⟨rfl,ah⟩,J⟩;(· exact ⟨rfl,by rw[cP,if_neg (aV n).1,<-(aV n).2];exact aR.x ⟨q,rfl,hq⟩ (U.x (aO4 _)) (by omega) (by simp)⟩))
 have hx1:=aw.carry (J.x (by omega))
 have bi:w1.heap[sb]?=some (.cells (rA [] u la (.slice none 0 0) (.slice none 0 0) (.slice none 0 0) (.pointer none) (.slice none 0 0) (.slice none 0 0)) 223 (0,0)):=by rw[J.block sb (by omega) y];exact bb
 have ar:=U.up J
 have bo:=J.size
 have x1:=hx1.a
 obtain ⟨-,-,c2,-⟩:=ah.cells
 have hdr:Fr w1.heap.size [] w1 w1.drew:=(Fr.refl _ _ _).drew
 have bg:=ah.same hdr
 go_still_tail 5,(by kernel_rfl)
 go_wp2_with (go_at_call 107;refine (kD (C:=C) c 24 hc).mono ?_;rintro e w2 ⟨rfl,O⟩;have Z:PS C w2 (i+1) c ins 0:=(by rw[O];exact bg);have I:Fr w1.heap.size [] w1 w2:=(by rw[O];exact hdr);clear O;have ac:=hx1.carry ((I.wide (X:=[C.rb])).x (B:=w.heap.size+2) (by omega));have y1:=ac.a;obtain ⟨-,-,d2,-⟩:=Z.cells;have z2:=Z.frozen 2;have bj:=I.size)
 obtain ⟨ae,r⟩:=Z.more
 have D:=ac.carry (r.x (B:=w.heap.size+2) (by omega))
 have al:(w2.setCell ⟨C.rb,2,none⟩ (.int .i64 ((c:Int)+1))).heap[sb]?=some (.cells (rA [] u la (.slice none 0 0) (.slice none 0 0) (.slice none 0 0) (.pointer none) (.slice none 0 0) (.slice none 0 0)) 223 (0,0)):=by rw[r.block sb (by omega) y,I.block sb (by omega) (by simp)];exact bi
 have Q:=(ar.up I.wide).up r
 have av:=r.size
 clear d2 z2 y1 x1 c2
 generalize (w2.setCell ⟨C.rb,2,none⟩ (.int .i64 ((c:Int)+1)))=w3 at ae r D al Q av ⊢
 have ad:Fr w3.heap.size [] w3 w3.drew:=(Fr.refl _ _ _).drew
 have ag:=ae.same ad
 have a3:=D.a
 have b3:=D.b
 go_region_law
  (go_simp
   go_at_call 102
   refine (eZ ag).mono ?_
   rintro e w4 h4
   rcases h4.cases with ⟨f,aa,q,rfl,hq⟩|⟨s4,v4,aa,rfl,⟨rfl,au⟩,bc⟩
   ·exact ⟨rfl,by rw[(HE _ aa (bJ n)).out];exact aR.x ⟨q,rfl,hq⟩ ((Q.x (aO4 _)).drew) (by (show w.heap.size≤w3.heap.size);omega) (by simp)⟩
   rw[sv]
   have l:=ad.wide.up bc
   have Y:=D.carry (l.x (B:=w.heap.size+2) (by omega))
   have a4:=Y.a
   have b4:=Y.b
   have ak:w4.heap[sb]?=some (.cells (rA [] u la (.slice none 0 0) (.slice none 0 0) (.slice none 0 0) (.pointer none) (.slice none 0 0) (.slice none 0 0)) 223 (0,0)):=by rw[l.block sb (by omega) y];exact al
   obtain ⟨s0,bk⟩:=lU ak 0 (.string ⟨#[]⟩) rfl
   have bp:=l.size
   have ay:=au.put ap 0 (.string ⟨s4.toArray⟩)
   have ba:(w4.setCell ⟨sb,0,none⟩ (.string ⟨s4.toArray⟩)).heap[sb]?=some (.cells (rA s4 u la (.slice none 0 0) (.slice none 0 0) (.slice none 0 0) (.pointer none) (.slice none 0 0) (.slice none 0 0)) 223 (0,0)):=heap_setCell_same w4 sb 0 _ 223 _ ak
   have an:=((Q.up l).x (sb:=sb) (aO4 _)).setCell (p:=⟨sb,0,none⟩) (.inr (by simp)) (.string ⟨s4.toArray⟩)
   have af:=Y.carry (((Fr.refl (w.heap.size+2) [C.rb,sb] w4)).setCell (p:=⟨sb,0,none⟩) (.inr (by simp)) (.string ⟨s4.toArray⟩))
   have a5:=af.a
   have b5:=af.b)
 all_goals
  go_wp2_with (go_at_call 109;refine (dM ay ⟨#[59]⟩ be.out (by decide)).mono ?_;rintro e w6 ⟨rfl,ao,ai⟩)
  first
   | go_end0
   | refine aY9 (results_none rfl _ _ _) rfl ?_
  rw[(HO _ aa (bJ n)).out]
  exact ⟨_,rfl,⟨rfl,ao,⟨_,_,_,_,_,_,_,_,_,_,_,SU.start (by rw[ai.block sb (by simp;omega) y];exact ba)⟩⟩,an.trans (ai.x (by simp;omega))⟩
theorem m9 {C:dV}{k sb ins i c:Nat}{w:World}{y la:Bool}(h:PS C w i c ins 0) (ak:C.rb<sb) (ao:w.heap[sb]?=some (.cells (rA [] y la (.slice none 0 0) (.slice none 0 0) (.slice none 0 0) (.pointer none) (.slice none 0 0) (.slice none 0 0)) 223 (0,0))) (hc:c<24) (af:tx C.L (i+2)≠fE) (hR:Region C k) (hk:ins+k=6):Calls prog 151 #[.pointer (some ⟨C.rb,0,none⟩),.pointer (some ⟨sb,0,none⟩)] w (lS w.heap.size [C.rb,sb] (Uy C k (w.heap.size+2) sb ins) w (cP C.L (St k) (aW C.L k) y la c i)):=by
 have hC:=h.lts.1
 have bg:=aB ao
 obtain ⟨bq,au⟩:=h.alloc (.cells #[.pointer (some ⟨C.rb,0,none⟩)] 168)
 obtain ⟨bo,bc⟩:=bq.alloc (.cells #[.pointer (some ⟨sb,0,none⟩)] 225)
 have Z:=au.up bc
 have bw:((w.alloc (.cells #[.pointer (some ⟨C.rb,0,none⟩)] 168)).alloc (.cells #[.pointer (some ⟨sb,0,none⟩)] 225)).heap.size=w.heap.size+2:=by simp
 have bb:wX C (w.heap.size+2) sb w.heap.size (w.heap.size+1) ((w.alloc (.cells #[.pointer (some ⟨C.rb,0,none⟩)] 168)).alloc (.cells #[.pointer (some ⟨sb,0,none⟩)] 225)):=⟨by simp,by simp,by omega,by omega,by simp;omega,by simp;omega⟩
 have bj:((w.alloc (.cells #[.pointer (some ⟨C.rb,0,none⟩)] 168)).alloc (.cells #[.pointer (some ⟨sb,0,none⟩)] 225)).heap[sb]?=some (.cells (rA [] y la (.slice none 0 0) (.slice none 0 0) (.slice none 0 0) (.pointer none) (.slice none 0 0) (.slice none 0 0)) 223 (0,0)):=by rw[Z.block sb bg (by simp;omega)];exact ao
 have ad:sb∉[C.rb]:=by simp;omega
 have bz:∀(fn:Fn) (first cap:Array Value) (w:World),(Instr.makeFunc fn first cap).run prog w=.ok (.func fn first cap) w:=fun _ _ _ _=>rfl
 have HO:∀s,Hid (nm C.L (i+1)=.ok s)->tx C.L i=gZ->Hid (cP C.L (St k) (aW C.L k) y la c i=if tx C.L (i+2)=fF then parts C.L (St k) (aW C.L k) C.L.length ⟨s,y,la,[],[],[],.nil,[],[]⟩ (c+1) (i+2+1) else .error (3,pl C.L (i+2))):=fun s hs ht=>by rw[Hid,cP,if_pos ht,if_neg (by omega),hs.out];simp only;rw[if_neg af]
 have HE:∀f,Hid (nm C.L (i+1)=.error f)->tx C.L i=gZ->Hid (cP C.L (St k) (aW C.L k) y la c i=.error f):=fun f hs ht=>by rw[Hid,cP,if_pos ht,if_neg (by omega),hs.out]
 have bm:Hid _:=af
 clear af
 go_enter Tryz.func151,Tryz.ntmps151
 go_wp2_with (go_at_call 101;refine (cD bo ⟨#[115,116,97,116,101]⟩ gZ rfl (by decide)).mono ?_;rintro e w1 h1;rcases h1.cases with ⟨f,n,q,rfl,hq⟩|⟨_,v1,n,rfl,⟨rfl,am⟩,O⟩;(· exact ⟨rfl,by rw[cP,if_neg (aV n).1,<-(aV n).2];exact aR.x ⟨q,rfl,hq⟩ (Z.x (aO4 _)) (by omega) (by simp)⟩))
 have hx1:=bb.carry (O.x (by omega))
 have br:w1.heap[sb]?=some (.cells (rA [] y la (.slice none 0 0) (.slice none 0 0) (.slice none 0 0) (.pointer none) (.slice none 0 0) (.slice none 0 0)) 223 (0,0)):=by rw[O.block sb (by omega) ad];exact bj
 have ay:=Z.up O
 have ca:=O.size
 have x1:=hx1.a
 obtain ⟨-,-,c2,-⟩:=am.cells
 have hdr:Fr w1.heap.size [] w1 w1.drew:=(Fr.refl _ _ _).drew
 have bp:=am.same hdr
 go_still_tail 5,(by kernel_rfl)
 go_wp2_with (go_at_call 107;refine (kD (C:=C) c 24 hc).mono ?_;rintro e w2 ⟨rfl,U⟩;have ab:PS C w2 (i+1) c ins 0:=(by rw[U];exact bp);have J:Fr w1.heap.size [] w1 w2:=(by rw[U];exact hdr);clear U;have ag:=hx1.carry ((J.wide (X:=[C.rb])).x (B:=w.heap.size+2) (by omega));have y1:=ag.a;obtain ⟨-,-,d2,-⟩:=ab.cells;have z2:=ab.frozen 2;have bu:=J.size)
 obtain ⟨aj,u⟩:=ab.more
 have D:=ag.carry (u.x (B:=w.heap.size+2) (by omega))
 have ar:(w2.setCell ⟨C.rb,2,none⟩ (.int .i64 ((c:Int)+1))).heap[sb]?=some (.cells (rA [] y la (.slice none 0 0) (.slice none 0 0) (.slice none 0 0) (.pointer none) (.slice none 0 0) (.slice none 0 0)) 223 (0,0)):=by rw[u.block sb (by omega) ad,J.block sb (by omega) (by simp)];exact br
 have Y:=(ay.up J.wide).up u
 have ba:=u.size
 clear d2 z2 y1 x1 c2
 generalize (w2.setCell ⟨C.rb,2,none⟩ (.int .i64 ((c:Int)+1)))=w3 at aj u D ar Y ba ⊢
 have ah:Fr w3.heap.size [] w3 w3.drew:=(Fr.refl _ _ _).drew
 have al:=aj.same ah
 have a3:=D.a
 have b3:=D.b
 go_region_law
  (go_simp
   go_at_call 102
   refine (eZ al).mono ?_
   rintro e w4 h4
   rcases h4.cases with ⟨f,I,q,rfl,hq⟩|⟨s4,v4,I,rfl,⟨rfl,az⟩,bk⟩
   ·exact ⟨rfl,by rw[(HE _ I (bJ n)).out];exact aR.x ⟨q,rfl,hq⟩ ((Y.x (aO4 _)).drew) (by (show w.heap.size≤w3.heap.size);omega) (by simp)⟩
   rw[sv]
   have l:=ah.wide.up bk
   have aa:=D.carry (l.x (B:=w.heap.size+2) (by omega))
   have a4:=aa.a
   have b4:=aa.b
   have ap:w4.heap[sb]?=some (.cells (rA [] y la (.slice none 0 0) (.slice none 0 0) (.slice none 0 0) (.pointer none) (.slice none 0 0) (.slice none 0 0)) 223 (0,0)):=by rw[l.block sb (by omega) ad];exact ar
   obtain ⟨s0,bv⟩:=lU ap 0 (.string ⟨#[]⟩) rfl
   have cb:=l.size
   have be:=az.put ak 0 (.string ⟨s4.toArray⟩)
   have bh:(w4.setCell ⟨sb,0,none⟩ (.string ⟨s4.toArray⟩)).heap[sb]?=some (.cells (rA s4 y la (.slice none 0 0) (.slice none 0 0) (.slice none 0 0) (.pointer none) (.slice none 0 0) (.slice none 0 0)) 223 (0,0)):=heap_setCell_same w4 sb 0 _ 223 _ ap
   have Q:=((Y.up l).x (sb:=sb) (aO4 _)).setCell (p:=⟨sb,0,none⟩) (.inr (by simp)) (.string ⟨s4.toArray⟩)
   have ac:=aa.carry (((Fr.refl (w.heap.size+2) [C.rb,sb] w4)).setCell (p:=⟨sb,0,none⟩) (.inr (by simp)) (.string ⟨s4.toArray⟩))
   have a5:=ac.a
   have b5:=ac.b)
 all_goals
  go_wp2_with (first
   | (go_at_call 109;refine (cN be ⟨#[59]⟩ bm.out).mono ?_;rintro e w6 ⟨rfl,aw,r⟩;have an:=r.size;have ai:=ac.carry ((r.wide (X:=[C.rb])).x (B:=w.heap.size+2) (by simp;omega));have q1:=ai.a;have bi:X9 k (w.heap.size+2) sb w6 ⟨s4,y,la,[],[],[],.nil,[],[]⟩:=⟨_,_,_,_,_,_,_,_,_,_,_,SU.start (by rw[r.block sb (by simp;omega) (by simp)];exact bh)⟩;have av:Db C (w.heap.size+2) sb w6:=⟨by omega,by omega,ak,by simp at an;omega⟩)
   | (go_at_call 103;refine (Co aw av bi ⟨by simp,by simp,by simp,by simp,by simp⟩ hR hk ai).mono ?_;rintro e w7 h7;rcases h7.cases with ⟨f,ae,q,rfl,hq⟩|⟨x7,v7,ae,rfl,⟨rfl,bn,bf⟩,ax⟩;(· exact ⟨rfl,by rw[(HO _ I (bJ n)).out,ae.out];obtain ⟨q1,q2,q3⟩:=hq;exact ⟨q,rfl,q1,by (simp at an;have:=Q.size;simp at this;omega),(Q.trans ((r.wide (X:=[C.rb])).x (by simp;omega))).trans (q3.mono (by omega) (fun _ hx _=>hx))⟩⟩)))
  go_end0
  rw[(HO _ I (bJ n)).out,ae.out]
  exact ⟨_,rfl,⟨rfl,bn,bf⟩,(Q.trans ((r.wide (X:=[C.rb])).x (by simp;omega))).trans (ax.mono (by omega) (fun _ hx _=>hx))⟩
theorem Kg {C:dV}{k sb ins i c:Nat}{w:World}{r la:Bool}(h:PS C w i c ins 0) (n:C.rb<sb) (l:w.heap[sb]?=some (.cells (rA [] r la (.slice none 0 0) (.slice none 0 0) (.slice none 0 0) (.pointer none) (.slice none 0 0) (.slice none 0 0)) 223 (0,0))) (u:Region C k) (s:ins+k=6):Calls prog 151 #[.pointer (some ⟨C.rb,0,none⟩),.pointer (some ⟨sb,0,none⟩)] w (lS w.heap.size [C.rb,sb] (Uy C k (w.heap.size+2) sb ins) w (cP C.L (St k) (aW C.L k) r la c i)):=by
 by_cases hc:24≤c
 ·exact Dq h n l hc
 ·by_cases hse:tx C.L (i+2)=fE
  ·exact Dp h n l (by omega) hse
  ·exact m9 h n l (by omega) hse u s
end
section
open Go.RowKit Px
theorem Fr.stays {C:dV}{w w':World}{b:Nat}{o:Obj}(h:Fr w.heap.size [C.rb] w w') (hb:w.heap[b]?=some o) (k:C.rb<b):w'.heap[b]?=some o:=by
 rw[h.block b (aB hb) (by simp;omega)];exact hb
theorem Tryz.sizeState:(prog.info? 223).map (·.size)=some 9:=by kernel_rfl
theorem aD5 {W:World}{g:Nat}{fc:Array Value}(hsz:fc.size=9) (hg:W.heap[g]?=some (.cells fc 223 (0,0))):(loadVar 223 ⟨g,0,none⟩).run prog W=.ok (.agg fc) W:=
 run_loadVar_row (P:=prog) W g 223 223 fc (0,0) _ hg Tryz.underlying223 rfl (by rw[hsz];exact Tryz.sizeState)
theorem Tryz.infoState:(prog.info? 223).map (fun i=>(i.zero,i.size,i.bytes))=some (some (.agg #[.string ⟨#[]⟩,.bool false,.bool false,.slice none 0 0,.slice none 0 0,.slice none 0 0,.pointer none,.slice none 0 0,.slice none 0 0]),9,152):=by kernel_rfl
structure pG (k B:Nat) (w:World) (l:List (cF (St k))) (v:Value) (xs:List Value):Prop where
 own:w.ownsRow B 223 9 v l.length xs
 rows:Rows (Da (kE B v) w (aM (kE B v) w k)) l xs
theorem pG.done {k B:Nat}{w:World}{l:List (cF (St k))}{v:Value}{xs:List Value}(h:pG k B w l v xs):aM (Ge B) w (k+1) l v:=
 ⟨xs,⟨qN h.own,fun g hg=>(h.own.lt g hg).1⟩,h.rows.map (Da.carry nF (aM.carry nF k))⟩
theorem pG.carry {C:dV}{k B:Nat}{w w':World}{l:List (cF (St k))}{v:Value}{xs:List Value}(h:pG k B w l v xs) (hB:C.rb<B) (hf:Fr w.heap.size [C.rb] w w'):pG k B w' l v xs:=
 ⟨qM h.own hB hf,h.rows.map (Da.carry (tJ hB hf) (aM.carry (tJ hB hf) k))⟩
theorem Z9 {C:dV}{k B:Nat}{w wr w5 w6:World}{l:List (cF (St k))}{v n:Value}{xs cs:List Value}{s:cF (St k)}{o:Obj}(hB:C.rb<B) (D:B≤wr.heap.size) (h:pG k B wr l v xs) (I:Fr wr.heap.size [C.rb] wr w5) (Y:Fr B [C.rb] w wr) (he:Da (Ge wr.heap.size) w5 (aM (Ge wr.heap.size) w5 k) s cs)
    (r:w6.ownsRow B 223 9 n (l.length+1) (xs++cs)) (u:(w5.alloc o).grownBy w6 v.ownBlock) (y:n.ownBlock=v.ownBlock\/n.ownBlock=some (w5.alloc o).heap.size) :
    pG k B w6 (l++[s]) n (xs++cs)/\Fr B [C.rb] w w6:=by
 have J:=I.size
 have X:∀A:Nat->Prop,bB A A w5 (w5.alloc o):=fun A b e hb=>⟨e,Below.heap_alloc _ _ _ hb⟩
 have Q:bB (kE B v) (kE B n) wr w6:=sZ ((tJ hB I).trans (X _) J) (by simp;omega) u y
 have O:∀g,v.ownBlock=some g->g<wr.heap.size:=fun g u=>(h.own.lt g u).2
 have U:bB (Ge wr.heap.size) (kE B n) w5 w6:=((Bj D O).trans (sZ (X _) (by simp) u y) (aO4 _))
 refine ⟨⟨by rw[aO9];exact r,(h.rows.map (Da.carry Q (aM.carry Q k))).append (Rows.one (Da.carry U (aM.carry U k) _ _ he))⟩,?_⟩
 exact ((Y.up' I D).alloc (by omega) o).grown u (by simp;omega) (fun k Z=>.inl (h.own.lt k Z).1)
theorem qH.shape {A:Nat->Prop}{w:World}{l:List Wy}{v:Value}(h:qH A w l v):∃ao n cap,v=.slice ao n cap:=by
 obtain ⟨r,k,_⟩:=h
 obtain ⟨ao,cap,rfl⟩:=aP k.1
 exact ⟨ao,_,cap,rfl⟩
theorem gP.shape {ρ:Type}{A:Nat->Prop}{w:World}{I:List ρ->Value->Prop}{l:List (List ρ)}{v:Value}(h:gP A w I l v):∃ao n cap,v=.slice ao n cap:=by
 obtain ⟨r,k,_⟩:=h
 obtain ⟨ao,cap,rfl⟩:=aP k.1
 exact ⟨ao,_,cap,rfl⟩
theorem Da.shapes {ρ:Type}{A:Nat->Prop}{w:World}{I:List ρ->Value->Prop}{s:cF ρ}{e d l p y r:Value}(h:Da A w I s (rA s.name s.first s.last e d l p y r).toList) :
    (∃a n c,e=.slice a n c)/\(∃a n c,d=.slice a n c)/\(∃a n c,l=.slice a n c)/\(∃u,p=.pointer u)/\(∃a n c,y=.slice a n c)/\(∃a n c,r=.slice a n c):=by
 obtain ⟨e',d',Z,p',y',Y,k,Q,J,X,O,U,D⟩:=h
 simp at k
 obtain ⟨rfl,rfl,rfl,rfl,rfl,rfl⟩:=k
 exact ⟨Q.shape,J.shape,X.shape,O.ptr,U.shape,D.shape⟩
end
section
open Go.RowKit Px
abbrev Zt (fi la:Bool):Array Value:=rA [] fi la (.slice none 0 0) (.slice none 0 0) (.slice none 0 0) (.pointer none) (.slice none 0 0) (.slice none 0 0)
abbrev Z0:Array Value:=#[.string ⟨#[]⟩,.bool false,.bool false,.slice none 0 0,.slice none 0 0,.slice none 0 0,.pointer none,.slice none 0 0,.slice none 0 0]
theorem nine {w:World}{b:Nat}{k la:Bool}(h:w.heap[b]?=some (.cells (Zt k la) 223 (0,0))):w.cell? ⟨b,0,none⟩=some (sv [])/\w.cell? ⟨b,1,none⟩=some (.bool k)/\w.cell? ⟨b,2,none⟩=some (.bool la)/\w.cell? ⟨b,3,none⟩=some (.slice none 0 0)/\w.cell? ⟨b,4,none⟩=some (.slice none 0 0)/\w.cell? ⟨b,5,none⟩=some (.slice none 0 0)/\w.cell? ⟨b,6,none⟩=some (.pointer none)/\w.cell? ⟨b,7,none⟩=some (.slice none 0 0)/\w.cell? ⟨b,8,none⟩=some (.slice none 0 0)/\∀o,w.frozen? ⟨b,o,none⟩=false:=by
 refine ⟨?_,?_,?_,?_,?_,?_,?_,?_,?_,fun o=>by simp[World.frozen?,h]⟩<;>(rw[cell_of_row _ _ _ _ _ _ h];rfl)
def Zb (C:dV) (w:World) (j c ins:Nat) (b1 b2:Bool) (s:Value) (wc:World):Prop:=
 ∃sb,s=.pointer (some ⟨sb,0,none⟩)/\w.heap.size≤sb/\wc.heap[sb]?=some (.cells (Zt b1 b2) 223 (0,0))/\PS C wc j c ins 0/\Fr w.heap.size [C.rb] w wc
theorem Qx {w:World}{b:Nat}{k la:Bool}(h:w.heap[b]?=some (.cells (Zt false false) 223 (0,0))) :
    (((((((((w.setCell ⟨b,0,none⟩ (.string ⟨#[]⟩)).setCell ⟨b,1,none⟩ (.bool k)).setCell ⟨b,2,none⟩ (.bool la)).setCell ⟨b,3,none⟩ (.slice none 0 0)).setCell ⟨b,4,none⟩ (.slice none 0 0)).setCell ⟨b,5,none⟩ (.slice none 0 0)).setCell ⟨b,6,none⟩ (.pointer none)).setCell ⟨b,7,none⟩ (.slice none 0 0)).setCell ⟨b,8,none⟩ (.slice none 0 0)).heap[b]?=some (.cells (Zt k la) 223 (0,0)):=by
 have I:(w.setCell ⟨b,0,none⟩ (.string ⟨#[]⟩)).heap[b]?=some (.cells #[.string ⟨#[]⟩,.bool false,.bool false,.slice none 0 0,.slice none 0 0,.slice none 0 0,.pointer none,.slice none 0 0,.slice none 0 0] 223 (0,0)):=by rw[heap_setCell_same _ b 0 _ 223 _ h];rfl
 have u:((w.setCell ⟨b,0,none⟩ (.string ⟨#[]⟩)).setCell ⟨b,1,none⟩ (.bool k)).heap[b]?=some (.cells #[.string ⟨#[]⟩,.bool k,.bool false,.slice none 0 0,.slice none 0 0,.slice none 0 0,.pointer none,.slice none 0 0,.slice none 0 0] 223 (0,0)):=by rw[heap_setCell_same _ b 1 _ 223 _ I];rfl
 have r:(((w.setCell ⟨b,0,none⟩ (.string ⟨#[]⟩)).setCell ⟨b,1,none⟩ (.bool k)).setCell ⟨b,2,none⟩ (.bool la)).heap[b]?=some (.cells #[.string ⟨#[]⟩,.bool k,.bool la,.slice none 0 0,.slice none 0 0,.slice none 0 0,.pointer none,.slice none 0 0,.slice none 0 0] 223 (0,0)):=by rw[heap_setCell_same _ b 2 _ 223 _ u];rfl
 have J:((((w.setCell ⟨b,0,none⟩ (.string ⟨#[]⟩)).setCell ⟨b,1,none⟩ (.bool k)).setCell ⟨b,2,none⟩ (.bool la)).setCell ⟨b,3,none⟩ (.slice none 0 0)).heap[b]?=some (.cells #[.string ⟨#[]⟩,.bool k,.bool la,.slice none 0 0,.slice none 0 0,.slice none 0 0,.pointer none,.slice none 0 0,.slice none 0 0] 223 (0,0)):=by rw[heap_setCell_same _ b 3 _ 223 _ r];rfl
 have s:(((((w.setCell ⟨b,0,none⟩ (.string ⟨#[]⟩)).setCell ⟨b,1,none⟩ (.bool k)).setCell ⟨b,2,none⟩ (.bool la)).setCell ⟨b,3,none⟩ (.slice none 0 0)).setCell ⟨b,4,none⟩ (.slice none 0 0)).heap[b]?=some (.cells #[.string ⟨#[]⟩,.bool k,.bool la,.slice none 0 0,.slice none 0 0,.slice none 0 0,.pointer none,.slice none 0 0,.slice none 0 0] 223 (0,0)):=by rw[heap_setCell_same _ b 4 _ 223 _ J];rfl
 have D:((((((w.setCell ⟨b,0,none⟩ (.string ⟨#[]⟩)).setCell ⟨b,1,none⟩ (.bool k)).setCell ⟨b,2,none⟩ (.bool la)).setCell ⟨b,3,none⟩ (.slice none 0 0)).setCell ⟨b,4,none⟩ (.slice none 0 0)).setCell ⟨b,5,none⟩ (.slice none 0 0)).heap[b]?=some (.cells #[.string ⟨#[]⟩,.bool k,.bool la,.slice none 0 0,.slice none 0 0,.slice none 0 0,.pointer none,.slice none 0 0,.slice none 0 0] 223 (0,0)):=by rw[heap_setCell_same _ b 5 _ 223 _ s];rfl
 have l:(((((((w.setCell ⟨b,0,none⟩ (.string ⟨#[]⟩)).setCell ⟨b,1,none⟩ (.bool k)).setCell ⟨b,2,none⟩ (.bool la)).setCell ⟨b,3,none⟩ (.slice none 0 0)).setCell ⟨b,4,none⟩ (.slice none 0 0)).setCell ⟨b,5,none⟩ (.slice none 0 0)).setCell ⟨b,6,none⟩ (.pointer none)).heap[b]?=some (.cells #[.string ⟨#[]⟩,.bool k,.bool la,.slice none 0 0,.slice none 0 0,.slice none 0 0,.pointer none,.slice none 0 0,.slice none 0 0] 223 (0,0)):=by rw[heap_setCell_same _ b 6 _ 223 _ D];rfl
 have y:((((((((w.setCell ⟨b,0,none⟩ (.string ⟨#[]⟩)).setCell ⟨b,1,none⟩ (.bool k)).setCell ⟨b,2,none⟩ (.bool la)).setCell ⟨b,3,none⟩ (.slice none 0 0)).setCell ⟨b,4,none⟩ (.slice none 0 0)).setCell ⟨b,5,none⟩ (.slice none 0 0)).setCell ⟨b,6,none⟩ (.pointer none)).setCell ⟨b,7,none⟩ (.slice none 0 0)).heap[b]?=some (.cells #[.string ⟨#[]⟩,.bool k,.bool la,.slice none 0 0,.slice none 0 0,.slice none 0 0,.pointer none,.slice none 0 0,.slice none 0 0] 223 (0,0)):=by rw[heap_setCell_same _ b 7 _ 223 _ l];rfl
 have n:(((((((((w.setCell ⟨b,0,none⟩ (.string ⟨#[]⟩)).setCell ⟨b,1,none⟩ (.bool k)).setCell ⟨b,2,none⟩ (.bool la)).setCell ⟨b,3,none⟩ (.slice none 0 0)).setCell ⟨b,4,none⟩ (.slice none 0 0)).setCell ⟨b,5,none⟩ (.slice none 0 0)).setCell ⟨b,6,none⟩ (.pointer none)).setCell ⟨b,7,none⟩ (.slice none 0 0)).setCell ⟨b,8,none⟩ (.slice none 0 0)).heap[b]?=some (.cells #[.string ⟨#[]⟩,.bool k,.bool la,.slice none 0 0,.slice none 0 0,.slice none 0 0,.pointer none,.slice none 0 0,.slice none 0 0] 223 (0,0)):=by rw[heap_setCell_same _ b 8 _ 223 _ y];rfl
 exact n
section
variable {C:dV}{w w2:World}{j c ins:Nat}{b1 b2:Bool}
theorem Ku (hp:PS C w2 j c ins 0) (hf:Fr w.heap.size [C.rb] w w2):Zb C w j c ins b1 b2 (.pointer (some ⟨w2.heap.size,0,none⟩)) (w2.alloc (.cells #[.string ⟨#[]⟩,.bool b1,.bool b2,.slice none 0 0,.slice none 0 0,.slice none 0 0,.pointer none,.slice none 0 0,.slice none 0 0] 223)):=
 ⟨_,rfl,hf.size,heap_alloc_new w2 _,(hp.alloc _).1,hf.up (hp.alloc _).2⟩
theorem Bi (sb:Nat) (hb:w2.heap[sb]?=some (.cells (Zt false false) 223 (0,0))) (hsb:w.heap.size≤sb) (hC:C.rb<w.heap.size) (hp:PS C w2 j c ins 0) (hf:Fr w.heap.size [C.rb] w w2) :
    Zb C w j c ins b1 b2 (.pointer (some ⟨sb,0,none⟩)) (((((((((w2.setCell ⟨sb,0,none⟩ (.string ⟨#[]⟩)).setCell ⟨sb,1,none⟩ (.bool b1)).setCell ⟨sb,2,none⟩ (.bool b2)).setCell ⟨sb,3,none⟩ (.slice none 0 0)).setCell ⟨sb,4,none⟩ (.slice none 0 0)).setCell ⟨sb,5,none⟩ (.slice none 0 0)).setCell ⟨sb,6,none⟩ (.pointer none)).setCell ⟨sb,7,none⟩ (.slice none 0 0)).setCell ⟨sb,8,none⟩ (.slice none 0 0)):=
 have hr:C.rb<sb:=by omega
 ⟨sb,rfl,hsb,Qx hb,((((((((hp.put hr 0 _).put hr 1 _).put hr 2 _).put hr 3 _).put hr 4 _).put hr 5 _).put hr 6 _).put hr 7 _).put hr 8 _,((((((((hf.setCell (.inl hsb) _).setCell (.inl hsb) _).setCell (.inl hsb) _).setCell (.inl hsb) _).setCell (.inl hsb) _).setCell (.inl hsb) _).setCell (.inl hsb) _).setCell (.inl hsb) _).setCell (.inl hsb) _⟩
end
theorem pG.carryX {X:List Nat}{k B:Nat}{w w':World}{l:List (cF (St k))}{v:Value}{xs:List Value}(h:pG k B w l v xs) (s:∀x∈X,x<B) (n:Fr w.heap.size X w w'):pG k B w' l v xs:=by
 have r:bB (kE B v) (kE B v) w w':=n.keep (fun b hb u=>by have:=s b u;have:=hb.1;omega)
 exact ⟨aJ1 h.own s n,h.rows.map (Da.carry r (aM.carry r k))⟩
def pK (L:List Lx.fQ) (k:Nat) (l:List (cF (St k))) (c i:Nat):Except F (Option (List (cF (St k))×Nat×Nat)):=
 if tx L i=dO\/tx L i=iC\/tx L i=gZ then
  match cP L (St k) (aW L k) (decide (tx L i=dO)) (decide (tx L (kH L dO i)=iC)) c (kH L iC (kH L dO i)) with
  | .error x=>.error x
  | .ok (s,c',j)=>.ok (some (l++[s],c',j))
 else .ok none
structure RE (C:dV) (B ba vb:Nat) (w:World) (v:Value):Prop where
 a:w.cell? ⟨ba,0,none⟩=some (.pointer (some ⟨C.rb,0,none⟩))
 v:w.heap[vb]?=some (.cells #[v] 174 (0,0))
 la:ba<B
 lv:vb<B
 na:C.rb<ba
 nv:C.rb<vb
 nav:ba≠vb
 lr:C.rb<B
 hB:B≤w.heap.size
theorem RE.low {C:dV}{B k n:Nat}{w w':World}{v:Value}(h:RE C B k n w v) (l:Fr B [C.rb] w w'):RE C B k n w' v:=by
 have r:=h.na
 have s:=h.nv
 exact ⟨by rw[l.cell (p:=⟨k,0,none⟩) h.la (by simp;omega)];exact h.a,by rw[l.block n h.lv (by simp;omega)];exact h.v,h.la,h.lv,r,s,h.nav,h.lr,aO6 h.hB l.size⟩
theorem RE.carry {C:dV}{B ba vb:Nat}{w w':World}{v:Value}(h:RE C B ba vb w v) (hf:Fr w.heap.size [C.rb] w w'):RE C B ba vb w' v:=h.low (hf.mono h.hB (by simp))
theorem RE.put {C:dV}{B l k:Nat}{w:World}{v:Value}(h:RE C B l k w v) (n:Value):RE C B l k (w.setCell ⟨k,0,none⟩ n) n:=by
 have s:=h.la
 have u:=h.hB
 have r:=cU w k 0 n
 refine ⟨?_,?_,h.la,h.lv,h.na,h.nv,h.nav,h.lr,aO6 h.hB r.size⟩
 ·rw[r.cell (p:=⟨l,0,none⟩) (by show l<_;omega) (by simp;exact h.nav)];exact h.a
 ·rw[heap_setCell_same w k 0 _ _ _ h.v];rfl
def aN7 (C:dV) (k B ba vb ins i c:Nat) (l:List (cF (St k))):Option (List (cF (St k))×Nat×Nat)->Value->World->Prop
 | none,v,w'=>v=.bool false/\PS C w' i c ins 0/\∃u xs,RE C B ba vb w' u/\pG k B w' l u xs
 | some (l',c',j),v,w'=>v=.bool true/\i<j/\l'.length≤j/\PS C w' j c' ins 0/\∃u xs,RE C B ba vb w' u/\pG k B w' l' u xs
theorem Ac {C:dV}{k B O vb:Nat}{w:World}{i c ins:Nat}{l:List (cF (St k))}{u:Value}{xs:List Value}(h:PS C w i c ins 0) (n:RE C B O vb w u) (hS:pG k B w l u xs) (hl:l.length≤i) (hR:Region C k) (hk:ins+k=6):Calls prog 150 #[.pointer (some ⟨O,0,none⟩),.pointer (some ⟨vb,0,none⟩)] w (lS B [C.rb,vb] (aN7 C k B O vb ins i c l) w (pK C.L k l c i)):=by
 have hx:=n.a
 have ad:O<w.heap.size:=aO5 n.la n.hB
 have cg:O≠C.rb:=by have:=n.na;omega
 have br:=hS.own
 obtain ⟨ao,cap,rfl⟩:=aP br
 obtain ⟨i0,hi,cd,J,bg⟩:=aZ1 Tryz.infoState
 have hC:=h.lts.1
 obtain ⟨be,aa⟩:=h.new (.cells Z0 223)
 have hdr:Fr w.heap.size [] w w.drew:=(Fr.refl _ _ _).drew
 have az:=h.same hdr
 obtain ⟨b1,ak⟩:∃x,Hid (x=decide (tx C.L i=dO)):=⟨_,rfl⟩
 obtain ⟨i1,Y⟩:∃x,Hid (x=kH C.L dO i):=⟨_,rfl⟩
 obtain ⟨b2,ah⟩:∃x,Hid (x=decide (tx C.L i1=iC)):=⟨_,rfl⟩
 obtain ⟨j,hj⟩:∃x,Hid (x=kH C.L iC i1):=⟨_,rfl⟩
 have c1:∀W,PS C W i c ins 0->Calls prog 109 #[.pointer (some ⟨C.rb,0,none⟩),.string ⟨#[105,110,105,116,105,97,108]⟩] W fun e w'=>e=.returned (.bool b1)/\PS C w' i1 c ins 0/\Fr W.heap.size [C.rb] W w':=fun W hW=>by rw[ak.out,Y.out];exact dS hW _ dO rfl (by decide)
 have c2:∀W,PS C W i1 c ins 0->Calls prog 109 #[.pointer (some ⟨C.rb,0,none⟩),.string ⟨#[102,105,110,97,108]⟩] W fun e w'=>e=.returned (.bool b2)/\PS C w' j c ins 0/\Fr W.heap.size [C.rb] W w':=fun W hW=>by rw[ah.out,hj.out];exact dS hW _ iC rfl (by decide)
 have ax:∀(W W':World),W.cell? ⟨O,0,none⟩=some (.pointer (some ⟨C.rb,0,none⟩))->O<W.heap.size->Fr W.heap.size [C.rb] W W'->W'.cell? ⟨O,0,none⟩=some (.pointer (some ⟨C.rb,0,none⟩)):=fun W W' h1 h2 hf=>by rw[hf.cell (p:=⟨O,0,none⟩) h2 (by simp;exact cg)];exact h1
 have Q:Hid _:=ax
 clear ax
 have bf:((w.alloc (.cells Z0 223)).drew).heap[w.heap.size]?=some (.cells (Zt false false) 223 (0,0)):=heap_alloc_new w _
 have bk:((w.alloc (.cells Z0 223)).drew).cell? ⟨O,0,none⟩=some (.pointer (some ⟨C.rb,0,none⟩)):=by rw[aa.cell (p:=⟨O,0,none⟩) ad (by simp)];exact hx
 have an:O<((w.alloc (.cells Z0 223)).drew).heap.size:=aO5 ad aa.size
 have ay:w.drew.cell? ⟨O,0,none⟩=some (.pointer (some ⟨C.rb,0,none⟩)):=hx
 have T1:Hid True:=trivial
 have T2:Hid True:=trivial
 go_enter Tryz.func150,Tryz.ntmps150
 go_upto_region 1 with fail
 go_cut [3] (fun s3 wc=>Hid (Zb C w j c ins b1 b2 s3 wc))
 case first=>
  go_region_law
   (first
    | (go_simp;go_at_call 109;clear T1;(with_reducible refine (c1 _ az).mono ?_);rintro e1 w1 ⟨rfl,ac,D⟩;have hx1:=Q.out _ _ ay ad D;have J:w.heap.size≤w1.heap.size:=aO6 (aO4 _) D.size;obtain ⟨bp,ai⟩:=ac.alloc (.cells Z0 223);have ch:=Q.out _ _ hx1 (aO5 ad J) ai)
    | (go_simp;go_at_call 109;clear T1;(with_reducible refine (c1 _ be).mono ?_);rintro e1 w1 ⟨rfl,ac,D⟩;have bo:=D.stays bf hC;have hx1:=Q.out _ _ bk an D;have J:=aO6 aa.size D.size;obtain ⟨bp,ai⟩:=ac.alloc (.cells Z0 223);have ch:=Q.out _ _ hx1 (aO5 ad J) ai)
    | (go_simp;go_at_call 109;clear T2;(with_reducible refine (c2 _ ac).mono ?_);rintro e1 w2 ⟨rfl,I,y⟩;try (have al:=y.stays bo hC;obtain ⟨n0,n1,n2,n3,n4,n5,n6,n7,n8,r⟩:=nine al;have da:=r 0;have cx:=r 1;have cm:=r 2;have bw:=r 3;have ci:=r 4;have bv:=r 5;have cn:=r 6;have bu:=r 7;have ca:=r 8;clear r))
    | (go_simp;go_at_call 109;clear T2;(with_reducible refine (c2 _ bp).mono ?_);rintro e1 w2 ⟨rfl,I,y⟩;have am:w2.heap[w1.heap.size]?=some (.cells (Zt false false) 223 (0,0)):=y.stays (heap_alloc_new w1 (.cells Z0 223)) ac.lts.1;obtain ⟨n0,n1,n2,n3,n4,n5,n6,n7,n8,r⟩:=nine am;have da:=r 0;have cx:=r 1;have cm:=r 2;have bw:=r 3;have ci:=r 4;have bv:=r 5;have cn:=r 6;have bu:=r 7;have ca:=r 8;clear r))
  all_goals
   go_wp2_with fail
   go_meet
   show Zb _ _ _ _ _ _ _ _ _
   first
    | (have hq:=Ku (b1:=b1) (b2:=b2) I ((hdr.wide.up D).up y);(with_reducible exact hq))
    | (have hq:=Bi (b1:=b1) (b2:=b2) w1.heap.size am J hC I (((hdr.wide.up D).up ai).up y);(with_reducible exact hq))
    | (have hq:=Bi (b1:=b1) (b2:=b2) w.heap.size al (aO4 _) hC I ((aa.wide.up D).up y);(with_reducible exact hq))
 case rest=>
  obtain ⟨sb,rfl,dj,au,hp,hf⟩:=hcut.out
  clear hcut be aa hdr az bf bk an ay c1 c2 Q T1 T2
  have ar:=n.carry hf
  have cv:=hS.carry n.lr hf
  have dt:=ar.a
  obtain ⟨-,m1,m2,-⟩:=nine au
  obtain ⟨tb,ag⟩:∃tb:ByteArray,Hid (bs tb=tx C.L j):=⟨⟨(tx C.L j).toArray⟩,rfl⟩
  by_cases hw:tx C.L i=dO\/tx C.L i=iC\/tx C.L i=gZ
  ·have af:Hid (pK C.L k l c i=match cP C.L (St k) (aW C.L k) b1 b2 c j with
       | .error x=>.error x
       | .ok (s,c',j)=>.ok (some (l++[s],c',j))):=by rw[Hid,pK,if_pos hw,ak.out,ah.out,hj.out,Y.out]
   have cq:Hid (i≤j):=by
    have:=pT C.L dO i
    have:=pT C.L iC i1
    rw[Hid,hj.out]
    have e:=Y.out
    omega
   have cb:Hid (b1=false->b2=false->tx C.L j=gZ):=fun f1 f2=>by
    have n1:tx C.L i≠dO:=fun e=>by rw[ak.out] at f1;exact absurd e (of_decide_eq_false f1)
    have e2:i1=i:=by rw[Y.out,kH,if_neg n1]
    have n2:tx C.L i≠iC:=fun e=>by rw[ah.out,e2] at f2;exact absurd e (of_decide_eq_false f2)
    have e4:j=i:=by rw[hj.out,e2,kH,if_neg n2]
    rw[e4]
    rcases hw with e|e|e
    ·exact absurd e n1
    ·exact absurd e n2
    ·exact e
   clear hw
   obtain ⟨wq,ct⟩:=gQx wc
   subst ct
   go_upto_region 2 with fail
   go_cut [21] (fun cz wc=>Hid (cz=.bool false/\PS C wc j c ins 0/\Fr wq.heap.size [] wq wc))
   case first=>
    cases b1 with
    | true=>
     go_wp2_with fail
     go_meet
     exact ⟨rfl,hp,Fr.refl _ _ _⟩
    | false=>
     cases b2 with
     | true=>
      go_wp2_with fail
      go_meet
      exact ⟨rfl,hp,Fr.refl _ _ _⟩
     | false=>
      have cy:(tb.toList==[115,116,97,116,101])=true:=by
       rw[ByteArray.toList_eq];exact beq_iff_eq.2 (by show bs tb=gZ;rw[ag.out];exact cb.out rfl rfl)
      go_wp2_with (go_at_call 106;refine (eI hp tb ag).mono ?_;rintro e w3 ⟨rfl,ap,Z⟩)
      go_meet
      exact ⟨rfl,ap,Z⟩
   case rest=>
    obtain ⟨rfl,I,y⟩:=hcut.out
    clear hcut
    have cj:=ar.carry y.wide
    have bn:wc.heap[sb]?=some (.cells (Zt b1 b2) 223 (0,0)):=by rw[y.block sb (aB au) (by simp)];exact au
    have cr:C.rb<sb:=by have:=n.lr;have:=n.hB;omega
    have dd:=cj.a
    have ce:=Kg (k:=k) I cr bn hR hk
    have av:=hf.up y.wide
    have bm:=av.size
    have dp:=n.hB
    have dl:=n.lr
    have dr:=n.lv
    have cu:Hid (∀f e w5,iV wc.heap.size [C.rb,sb] wc f e w5->iV B [C.rb,vb] w f e w5):=fun f e w5 ⟨q,h1,h2,h3,h4⟩=>⟨q,h1,h2,aO6 bm h3,(av.mono n.hB (by simp)).trans (h4.mono (by omega) (by intro x hx cc;simp at hx ⊢;omega))⟩
    have ds:=h.lt
    have dc:=h.wf.len
    go_wp2_with (first
     | (go_at_call 151;refine ce.mono ?_;rintro e w5 h5;rcases h5.cases with ⟨f,aj,q,rfl,hq⟩|⟨⟨s5,c5,j5⟩,v5,aj,rfl,⟨rfl,co,e5,d5,l5,p5,y5,r5,xe,xd,xl,xy,xr,bq⟩,cf⟩;(· exact ⟨rfl,by rw[af.out,aj.out];exact cu.out _ _ _ ⟨q,rfl,hq⟩⟩);have ae:Fr w.heap.size [C.rb] w w5:=av.trans (cf.mono bm (by intro x hx cc;simp at hx ⊢;omega));have bz:=n.carry ae;obtain ⟨dn,de⟩:=lU bz.v 0 (Value.slice ao l.length cap) rfl;have bb:=bq.done;obtain ⟨⟨a1,n1,q1,rfl⟩,⟨a2,n2,q2,rfl⟩,⟨a3,n3,q3,rfl⟩,⟨bi,rfl⟩,⟨a5,n5,q5,rfl⟩,⟨a6,n6,q6,rfl⟩⟩:=bb.shapes;have df:=ae.size;have bj:bB (Ge (wc.heap.size+2)) (Ge w.heap.size) w5 w5:=(fun b hb _=>⟨by simp[Ge] at *;omega,rfl⟩);have bc:=Da.carry bj (aM.carry bj k) _ _ bb)
     | (refine cM rfl 223 (.tmp 3) rfl ⟨sb,0,none⟩ rfl (.agg (rA s5.name s5.first s5.last (.slice a1 n1 q1) (.slice a2 n2 q2) (.slice a3 n3 q3) (.pointer bi) (.slice a5 n5 q5) (.slice a6 n6 q6))) (aD5 rfl bq.at_) ?_)
     | (at_builtin;refine wpList_append_own_at _ rfl (.tmp 24) (.tmp 26) 174 rfl B 223 i0 _ 9 152 Tryz.underlying174 hi cd J bg rfl (by decide) _ _ _ rfl ((qM hS.own n.lr ae).alloc _) ⟨w5.heap.size,0,none⟩ 1 1 (rA s5.name s5.first s5.last (.slice a1 n1 q1) (.slice a2 n2 q2) (.slice a3 n3 q3) (.pointer bi) (.slice a5 n5 q5) (.slice a6 n6 q6)).toList rfl rfl (World.news_of_block (fr:=(0,0)) (heap_alloc_new w5 _)) (by intro x hx;simp[sv] at hx;rcases hx with rfl|rfl|rfl|rfl|rfl|rfl|rfl|rfl|rfl<;>rfl) (by unfold maxLen;omega) (by omega) (by simp;omega) ?_;intro v6 w6 U ab _ cp;obtain ⟨dq,db,rfl⟩:=aP U;obtain ⟨cw,bh⟩:=Z9 (w:=w) (wr:=w) (s:=s5) n.lr n.hB hS ae (Fr.refl _ _ _) bc U ab cp;have ck:PS C w6 j5 c5 ins 0:=co.low n.lr (((Fr.refl _ _ _).alloc (by omega) _).grown ab (by simp;omega) (fun g hg=>.inl (hS.own.lt g hg).1));have aw:=n.low bh;obtain ⟨dm,dk⟩:=lU aw.v 0 (Value.slice ao l.length cap) rfl))
    go_ret
    rw[af.out,aj.out]
    have dh:=j9 (uW k) aj.out
    have di:=cq.out
    exact ⟨_,rfl,⟨rfl,by omega,by simp;omega,ck.put n.nv 0 _,_,_,aw.put _,cw.carryX (X:=[vb]) (by simp;exact n.lv) (cU _ _ _ _)⟩,(bh.mono (aO4 _) (by simp)).setCell (.inr (by simp)) _⟩
  ·have n1:tx C.L i≠dO:=fun e=>hw (.inl e)
   have n2:tx C.L i≠iC:=fun e=>hw (.inr (.inl e))
   have n3:tx C.L i≠gZ:=fun e=>hw (.inr (.inr e))
   have e1:b1=false:=by rw[ak.out];exact decide_eq_false n1
   have e2:i1=i:=by rw[Y.out,kH,if_neg n1]
   have e3:b2=false:=by rw[ah.out,e2];exact decide_eq_false n2
   have e4:j=i:=by rw[hj.out,e2,kH,if_neg n2]
   have af:Hid (pK C.L k l c i=.ok none):=by rw[Hid,pK,if_neg hw]
   subst e1;subst e3;subst e4
   have cy:(tb.toList==[115,116,97,116,101])=false:=by
    rw[ByteArray.toList_eq];exact beq_eq_false_iff_ne.2 (by show bs tb≠gZ;rw[ag.out];exact n3)
   clear hw n1 n2 n3 e2
   go_wp2_with (go_at_call 106;refine (eI hp tb ag).mono ?_;rintro e w3 ⟨rfl,ap,Z⟩)
   go_ret
   rw[af.out]
   exact ⟨_,rfl,⟨rfl,ap,_,xs,ar.carry Z.wide,cv.carry n.lr Z.wide⟩,((hf.up Z.wide).mono n.hB (by simp))⟩
end
section
open Go.RowKit Px
theorem B0 {C:dV}{w:World}{i st ins:Nat}{c1 c2:Value}(h:PS C w i st ins 0) (R:Ending->World->Prop) (Inv:Nat->World->Prop) (Fin:World->Prop) (g0:Nat)
    (s:tx C.L i≠fF->∀e w',aR C w (3,pl C.L i) e w'->R e w')
    (k:tx C.L i=fF->∀w1,PS C w1 (i+1) st ins 0->Fr w.heap.size [C.rb] w w1->Inv g0 w1)
    (l:∀g w1,Inv g w1->Calls prog 150 #[c1,c2] w1 fun e w2=>(e=.returned (.bool true)/\∃g',g'<g/\Inv g' w2)\/(e=.returned (.bool false)/\Fin w2)\/(∃ch,e=.panicked ch/\R e w2))
    (u:∀w2,Fin w2->∃j st',PS C w2 j st' ins 0/\(tx C.L j≠jM->∀e w3,aR C w2 (3,pl C.L j) e w3->R e w3)/\(tx C.L j=jM->∀w3,PS C w3 (j+1) st' ins 0->Fr w2.heap.size [C.rb] w2 w3->R (.returned (.tuple #[])) w3)) :
 Calls prog 103 #[.pointer (some ⟨C.rb,0,none⟩),.func (.func 150) #[] #[c1,c2]] w R:=by
 have HE:Hid _:=s
 have HS:Hid _:=k
 have HR:Hid _:=l
 have HF:Hid _:=u
 clear s k l u
 go_enter Tryz.func103,Tryz.ntmps103
 go_wp2_with (go_at_call 101;refine (cD h ⟨#[123]⟩ fF rfl (by decide)).mono ?_;rintro e w1 h1;rcases h1.cases with ⟨f,n,q,rfl,Q⟩|⟨_,v1,n,rfl,⟨rfl,I⟩,ac⟩;(· exact ⟨rfl,HE.out (aV n).1 _ _ (by rw[<-(aV n).2];exact ⟨q,rfl,Q⟩)⟩))
 have hI:Hid _:=HS.out (bJ n) w1 I ac
 go_loopg [] g0 (fun g wr=>Hid (Inv g wr))
 case atStart=>exact hI
 case round=>
  go_wp2_with fail
  refine (HR.out _ _ hrel.out).mono ?_
  rintro e w2 (⟨rfl,g',O,U⟩|⟨rfl,ab⟩|⟨ch,rfl,hR⟩)
  ·go_wp2_with fail
   go_roundg g'
   case measure=>exact O
   case rel=>exact U
  ·obtain ⟨j,st',Y,D,y⟩:=HF.out w2 ab
   have Z:Hid _:=D
   have aa:Hid _:=y
   clear D y
   go_wp2_with (go_at_call 101;refine (cD Y ⟨#[125]⟩ jM rfl (by decide)).mono ?_;rintro e w3 h3;rcases h3.cases with ⟨f,r,q,rfl,Q⟩|⟨_,v3,r,rfl,⟨rfl,X⟩,J⟩;(· exact ⟨rfl,Z.out (aV r).1 _ _ (by rw[<-(aV r).2];exact ⟨q,rfl,Q⟩)⟩))
   go_end0
   exact aa.out (bJ r) w3 X J
  ·exact ⟨rfl,hR⟩
theorem V9 {C:dV}{w:World}{i st ins:Nat}{c1 c2:Value}(h:PS C w i st ins 0) (R:Ending->World->Prop) (Inv:Nat->World->Prop) (Fin:World->Prop) (g0:Nat)
    (s:tx C.L i≠fF->∀e w',aR C w (3,pl C.L i) e w'->R e w')
    (k:tx C.L i=fF->∀w1,PS C w1 (i+1) st ins 0->Fr w.heap.size [C.rb] w w1->Inv g0 w1)
    (l:∀g w1,Inv g w1->Calls prog 104 #[c1,c2] w1 fun e w2=>(e=.returned (.bool true)/\∃g',g'<g/\Inv g' w2)\/(e=.returned (.bool false)/\Fin w2)\/(∃ch,e=.panicked ch/\R e w2))
    (u:∀w2,Fin w2->∃j st',PS C w2 j st' ins 0/\(tx C.L j≠jM->∀e w3,aR C w2 (3,pl C.L j) e w3->R e w3)/\(tx C.L j=jM->∀w3,PS C w3 (j+1) st' ins 0->Fr w2.heap.size [C.rb] w2 w3->R (.returned (.tuple #[])) w3)) :
 Calls prog 103 #[.pointer (some ⟨C.rb,0,none⟩),.func (.func 104) #[] #[c1,c2]] w R:=by
 have HE:Hid _:=s
 have HS:Hid _:=k
 have HR:Hid _:=l
 have HF:Hid _:=u
 clear s k l u
 go_enter Tryz.func103,Tryz.ntmps103
 go_wp2_with (go_at_call 101;refine (cD h ⟨#[123]⟩ fF rfl (by decide)).mono ?_;rintro e w1 h1;rcases h1.cases with ⟨f,n,q,rfl,Q⟩|⟨_,v1,n,rfl,⟨rfl,I⟩,ac⟩;(· exact ⟨rfl,HE.out (aV n).1 _ _ (by rw[<-(aV n).2];exact ⟨q,rfl,Q⟩)⟩))
 have hI:Hid _:=HS.out (bJ n) w1 I ac
 go_loopg [] g0 (fun g wr=>Hid (Inv g wr))
 case atStart=>exact hI
 case round=>
  go_wp2_with fail
  refine (HR.out _ _ hrel.out).mono ?_
  rintro e w2 (⟨rfl,g',O,U⟩|⟨rfl,ab⟩|⟨ch,rfl,hR⟩)
  ·go_wp2_with fail
   go_roundg g'
   case measure=>exact O
   case rel=>exact U
  ·obtain ⟨j,st',Y,D,y⟩:=HF.out w2 ab
   have Z:Hid _:=D
   have aa:Hid _:=y
   clear D y
   go_wp2_with (go_at_call 101;refine (cD Y ⟨#[125]⟩ jM rfl (by decide)).mono ?_;rintro e w3 h3;rcases h3.cases with ⟨f,r,q,rfl,Q⟩|⟨_,v3,r,rfl,⟨rfl,X⟩,J⟩;(· exact ⟨rfl,Z.out (aV r).1 _ _ (by rw[<-(aV r).2];exact ⟨q,rfl,Q⟩)⟩))
   go_end0
   exact aa.out (bJ r) w3 X J
  ·exact ⟨rfl,hR⟩
theorem Pa {L:List Lx.fQ}{k g c i:Nat}{l:List (cF (St k))}{f:F}(h:pK L k l c i=.error f):states L (St k) (aW L k) (g+1) l c i=.error f:=by
 rw[pK] at h
 by_cases hw:tx L i=dO\/tx L i=iC\/tx L i=gZ
 ·rw[if_pos hw] at h
  rw[states,if_pos hw]
  split at h
  ·rename_i hs;injection h with h;subst h;rw[hs]
  ·exact absurd h (by simp)
 ·rw[if_neg hw] at h;exact absurd h (by simp)
theorem Jz {L:List Lx.fQ}{k g c i r j:Nat}{l n:List (cF (St k))}(h:pK L k l c i=.ok (some (n,r,j))):states L (St k) (aW L k) (g+1) l c i=states L (St k) (aW L k) g n r j:=by
 rw[pK] at h
 by_cases hw:tx L i=dO\/tx L i=iC\/tx L i=gZ
 ·rw[if_pos hw] at h
  rw[states,if_pos hw]
  split at h
  ·exact absurd h (by simp)
  ·rename_i hs
   rw[hs]
   injection h with h;injection h with h;injection h with e1 h;injection h with e2 e3;subst e1;subst e2;subst e3
   rfl
 ·rw[if_neg hw] at h;exact absurd h (by simp)
theorem Ka {L:List Lx.fQ}{k g c i:Nat}{l:List (cF (St k))}(h:pK L k l c i=.ok none):states L (St k) (aW L k) (g+1) l c i=if tx L i=jM then .ok (l,c,i+1) else .error (3,pl L i):=by
 rw[pK] at h
 by_cases hw:tx L i=dO\/tx L i=iC\/tx L i=gZ
 ·rw[if_pos hw] at h
  split at h
  ·exact absurd h (by simp)
  ·exact absurd h (by simp)
 ·rw[states,if_neg hw]
def eS (C:dV) (k B ba vb ins:Nat) (x:List (cF (St k))×Nat×Nat) (v:Value) (w':World):Prop:=v=.tuple #[]/\PS C w' x.2.2 x.2.1 ins 0/\∃u xs,RE C B ba vb w' u/\pG k B w' x.1 u xs
theorem D7 {C:dV}{k B ba J ins i c:Nat}{w:World}{u:Value}{xs:List Value}(h:PS C w i c ins 0) (Y:RE C B ba J w u) (hS:pG k B w [] u xs) (hR:Region C k) (hk:ins+k=6) :
 Calls prog 103 #[.pointer (some ⟨C.rb,0,none⟩),.func (.func 150) #[] #[.pointer (some ⟨ba,0,none⟩),.pointer (some ⟨J,0,none⟩)]] w
     (lS B [C.rb,J] (eS C k B ba J ins) w (if tx C.L i=fF then states C.L (St k) (aW C.L k) C.L.length [] c (i+1) else .error (3,pl C.L i))):=by
 obtain ⟨I,y⟩:=gQx ((if tx C.L i=fF then states C.L (St k) (aW C.L k) C.L.length [] c (i+1) else .error (3,pl C.L i)))
 rw[<-y]
 refine B0 h _ (fun g w1=>∃(l:List (cF (St k))) (c1 j:Nat) (u:Value) (xs:List Value),I=states C.L (St k) (aW C.L k) g l c1 j/\C.L.length≤g+j/\l.length≤j/\PS C w1 j c1 ins 0/\RE C B ba J w1 u/\pG k B w1 l u xs/\Fr B [C.rb,J] w w1)
  (fun w2=>∃(l:List (cF (St k))) (c1 j:Nat) (u:Value) (xs:List Value),I=(if tx C.L j=jM then .ok (l,c1,j+1) else .error (3,pl C.L j))/\PS C w2 j c1 ins 0/\RE C B ba J w2 u/\pG k B w2 l u xs/\Fr B [C.rb,J] w w2) C.L.length ?_ ?_ ?_ ?_
 ·intro hn e w' ht
  rw[y,if_neg hn]
  exact ht.x (Fr.refl _ _ _) Y.hB (by simp)
 ·intro ho w1 r n
  exact ⟨[],c,i+1,u,xs,by rw[y,if_pos ho],by omega,by simp,r,Y.carry n,hS.carry Y.lr n,n.x Y.hB⟩
 ·rintro g w1 ⟨l,c1,j,u1,ac,s,hg,ag,r,Q,U,n⟩
  obtain ⟨g',rfl⟩:∃g',g=g'+1:=⟨g-1,by have:=r.lt;omega⟩
  refine (Ac r Q U ag hR hk).mono ?_
  rintro e w2 h2
  rcases h2.cases with ⟨f,D,ht⟩|⟨o,v,D,rfl,hv,ad⟩
  ·refine .inr (.inr ?_)
   obtain ⟨q,rfl,hq⟩:=ht
   refine ⟨_,rfl,?_⟩
   rw[s,Pa D.out]
   exact iV.up ⟨q,rfl,hq⟩ n
  ·cases o with
   | none=>
    obtain ⟨rfl,X,u2,Z,ab,aa⟩:=hv
    exact .inr (.inl ⟨rfl,l,c1,j,u2,Z,by rw[s,Ka D.out],X,ab,aa,n.trans ad⟩)
   | some x=>
    obtain ⟨l2,c2,j2⟩:=x
    obtain ⟨rfl,ah,ae,X,u2,Z,ab,aa⟩:=hv
    exact .inl ⟨rfl,g',by omega,l2,c2,j2,u2,Z,by rw[s,Jz D.out],by omega,ae,X,ab,aa,n.trans ad⟩
 ·rintro w2 ⟨l,c1,j,u1,ac,s,r,Q,U,n⟩
  refine ⟨j,c1,r,fun hn e w3 ht=>?_,fun ho w3 af O=>?_⟩
  ·rw[s,if_neg hn]
   exact ht.x n (aO6 Y.hB n.size) (by simp)
  ·rw[s,if_pos ho]
   exact ⟨_,rfl,⟨rfl,af,u1,ac,Q.carry O,U.carry Y.lr O⟩,n.trans (O.x (aO6 Y.hB n.size))⟩
theorem Aa {C:dV}:Region C 0:=by
 intro w i c ins u h
 obtain ⟨k,l⟩:=h.alloc (.cells #[.pointer (some ⟨C.rb,0,none⟩)] 168)
 have s:(w.alloc (.cells #[.pointer (some ⟨C.rb,0,none⟩)] 168)).cell? ⟨w.heap.size,0,none⟩=some (.pointer (some ⟨C.rb,0,none⟩)):=by simp
 obtain ⟨-,-,-,c3,-⟩:=k.cells
 go_enter Tryz.func110,Tryz.ntmps110
 go_wp2_with fail
 generalize (w.alloc (.cells #[.pointer (some ⟨C.rb,0,none⟩)] 168))=W0 at k l s c3 ⊢
 have hdr:=(Fr.refl W0.heap.size [] W0).drew
 have n:=k.same hdr
 go_still_tail 5,(by kernel_rfl)
 go_wp2_with (go_at_call 107;refine (nZ n ins 6 (by omega)).mono ?_;rintro e w2 ⟨q,rfl,r⟩;exact ⟨rfl,by (show aR C w (4,pl C.L i) _ _);exact aR.up (l.drew) ⟨q,rfl,r⟩⟩)
theorem Ab {C:dV}{k:Nat}(hR:Region C k):Region C (k+1):=by
 intro w i c ins hk h
 have hC:=h.lts.1
 obtain ⟨y,U⟩:=h.alloc (.cells #[.pointer (some ⟨C.rb,0,none⟩)] 168)
 have x1:(w.alloc (.cells #[.pointer (some ⟨C.rb,0,none⟩)] 168)).cell? ⟨w.heap.size,0,none⟩=some (.pointer (some ⟨C.rb,0,none⟩)):=by simp
 obtain ⟨-,-,-,c3,-⟩:=y.cells
 have ay:∀(fn:Fn) (first cap:Array Value) (w:World),(Instr.makeFunc fn first cap).run prog w=.ok (.func fn first cap) w:=fun _ _ _ _=>rfl
 have ai:(w.alloc (.cells #[.pointer (some ⟨C.rb,0,none⟩)] 168)).heap.size=w.heap.size+1:=by simp
 have I:Hid (aW C.L (k+1) c i=if tx C.L i=fF then states C.L (St k) (aW C.L k) C.L.length [] c (i+1) else .error (3,pl C.L i)):=rfl
 go_enter Tryz.func110,Tryz.ntmps110
 go_wp2_with fail
 generalize (w.alloc (.cells #[.pointer (some ⟨C.rb,0,none⟩)] 168))=W0 at y U x1 c3 ai ⊢
 have hdr:=(Fr.refl W0.heap.size [] W0).drew
 have an:=y.same hdr
 go_still_tail 5,(by kernel_rfl)
 go_wp2_with (go_at_call 107;refine (kD (C:=C) ins 6 (by omega)).mono ?_;rintro e w2 ⟨rfl,r⟩;have s:PS C w2 i c ins 0:=(by rw[r];exact an);have D:Fr W0.heap.size [] W0 w2:=(by rw[r];exact hdr);clear r;have y1:w2.cell? ⟨w.heap.size,0,none⟩=some (.pointer (some ⟨C.rb,0,none⟩)):=(by rw[D.cell (p:=⟨w.heap.size,0,none⟩) (by show w.heap.size<_;omega) (by simp)];exact x1);obtain ⟨-,-,-,d3,-⟩:=s.cells;have z3:=s.frozen 3;have av:=D.size;obtain ⟨ab,Q⟩:=s.into;obtain ⟨ac,X⟩:=ab.alloc (.cells #[.slice none 0 0] 174);have ad:(w2.setCell ⟨C.rb,3,none⟩ (.int .i64 ((ins:Int)+1))).heap.size=w2.heap.size:=(by simp[World.setCell]);have u:Fr w.heap.size [C.rb] w ((w2.setCell ⟨C.rb,3,none⟩ (.int .i64 ((ins:Int)+1))).alloc (.cells #[.slice none 0 0] 174)):=((U.up D.wide).up Q).up X;have y4:((w2.setCell ⟨C.rb,3,none⟩ (.int .i64 ((ins:Int)+1))).alloc (.cells #[.slice none 0 0] 174)).cell? ⟨w.heap.size,0,none⟩=some (.pointer (some ⟨C.rb,0,none⟩)):=(by rw[X.cell (p:=⟨w.heap.size,0,none⟩) (by show w.heap.size<_;omega) (by simp;omega),Q.cell (p:=⟨w.heap.size,0,none⟩) (by show w.heap.size<_;omega) (by simp;omega)];exact y1);have Y:((w2.setCell ⟨C.rb,3,none⟩ (.int .i64 ((ins:Int)+1))).alloc (.cells #[.slice none 0 0] 174)).heap[w2.heap.size]?=some (.cells #[.slice none 0 0] 174 (0,0)):=(by rw[<-ad];exact heap_alloc_new _ _);have ae:RE C (w2.heap.size+1) w.heap.size w2.heap.size ((w2.setCell ⟨C.rb,3,none⟩ (.int .i64 ((ins:Int)+1))).alloc (.cells #[.slice none 0 0] 174)) (.slice none 0 0):=⟨y4,Y,by omega,by omega,hC,by omega,by omega,by omega,aB Y⟩;have ag:pG k (w2.heap.size+1) ((w2.setCell ⟨C.rb,3,none⟩ (.int .i64 ((ins:Int)+1))).alloc (.cells #[.slice none 0 0] 174)) [] (.slice none 0 0) []:=⟨aY7 _ _ _ _,rfl⟩;have al:=D7 ac ae ag hR (by omega);have aj:=u.size;have ak:Hid (∀f e w5,iV (w2.heap.size+1) [C.rb,w2.heap.size] ((w2.setCell ⟨C.rb,3,none⟩ (.int .i64 ((ins:Int)+1))).alloc (.cells #[.slice none 0 0] 174)) f e w5->aR C w f e w5):=(fun f e w5 ⟨q,h1,h2,h3,h4⟩=>⟨q,h1,h2,aO6 aj h3,u.trans (h4.mono (by omega) (by intro x hx af;simp at hx ⊢;omega))⟩))
 go_wp2_with (first
  | (go_at_call 103;refine al.mono ?_;rintro e w5 h5;rcases h5.cases with ⟨f,n,q,rfl,hq⟩|⟨⟨l5,c5,j5⟩,v5,n,rfl,⟨rfl,l,u5,ax,J,O⟩,am⟩;(· exact ⟨rfl,by rw[I.out,n.out];exact ak.out _ _ _ ⟨q,rfl,hq⟩⟩);obtain ⟨aw,ao,rfl⟩:=aP O.own;have y5:=J.a;obtain ⟨-,-,-,e3,-⟩:=l.cells;have bb:=l.frozen 3;obtain ⟨az,au⟩:=lU J.v 0 _ rfl;have ar:¬C.rb=w2.heap.size:=(by omega);have ap:¬w2.heap.size=C.rb:=(by omega)))
 go_ret
 rw[I.out,n.out]
 obtain ⟨aa,ah⟩:=l.outOf
 have Z:Fr w.heap.size [C.rb] w w5:=u.trans (am.mono (by omega) (by intro x hx af;simp at hx ⊢;omega))
 have ba:=l.lts.1
 have kq:bB (Ge (w2.heap.size+1)) (Ge w.heap.size) w5 (w5.setCell ⟨C.rb,3,none⟩ (.int .i64 (ins:Int))):=fun b hb _=>⟨by simp[Ge] at *;omega,Below.heap_setCell _ _ _ _ (by simp[Ge] at *;omega)⟩
 exact ⟨_,rfl,⟨aM.carry kq (k+1) _ _ O.done,aa⟩,Z.up ah⟩
theorem Ea {C:dV}:∀k,Region C k:=by
 intro k
 induction k with
 | zero=>exact Aa
 | succ k ih=>exact Ab ih
end
end Go.Proofs.YthieaobjdpfcoaaGreatDoor
