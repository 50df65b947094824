import Derived.Test.YthieaobjdpfcoaaGreatDoorVEh
set_option maxRecDepth 100000
set_option maxHeartbeats 16000000
namespace Go.Proofs.YthieaobjdpfcoaaGreatDoor
open Go.Proofs.Tryz (prog)
section
open Go.RowKit Px
namespace Ew
open Px.Em (Kd Vr)
open Nx (Nt Sp)
section
variable {P A:Nat->Prop}{w:World}{kb E:Nat}{ns:List bE}{k:Kd}
theorem It {v:bQ}{r:List bQ}(h:v.kind=1):Em.dR (v::r) k=Em.dR r (jU (nM (aU k v.first) k.net.places) v.name ⟨k.net.places,-1,v.first⟩):=by
 simp only[Em.dR,if_pos h,if_neg (show ¬v.kind=2 by omega)]
 rfl
theorem Cb {v:bQ}{r:List bQ}(h:v.kind=2):Em.dR (v::r) k=Em.dR r (jU (lV (bF (aU k v.first) k.net.places) k.net.places) v.name ⟨k.net.places,-1,v.first⟩):=by
 simp only[Em.dR,if_neg (show ¬v.kind=1 by omega),if_pos h]
 rfl
theorem Ca {v:bQ}{r:List bQ}(c:v.kind≠1) (h:v.kind≠2):Em.dR (v::r) k=Em.dR r (jU (bF (aU k v.first) k.net.places) v.name ⟨k.net.places,-1,v.first⟩):=by
 simp only[Em.dR,if_neg c,if_neg h]
 rfl
theorem Bz {vs:List bQ}{v:Value}(hV:mJ A w vs v) (bn:∀x∈vs,x.name.length≤maxLen) (ab:∀x∈vs,jF x.first) (br:∀x∈vs,x.name∈ns) (ca:vs.length≤100000) (cc:E≤100000) (h:eK E ns P w kb k) (ac:k.net.first.length+ns.length≤k.net.code.length+E) (hR:Ro A P w) :
 Calls prog 70 #[.pointer (some ⟨kb,0,none⟩),v] w fun e w'=>e=.returned (.tuple #[])/\Hid (∃k',Em.dR vs k=some ((),k')/\At (E+vs.length) ns P kb w k w' k'):=by
 obtain ⟨ad,gd,cap,rfl,bz,hg,ah⟩:=Zj hV
 obtain ⟨n,hn⟩:=gQx vs.length
 rw[<-hn] at hg ca ⊢
 obtain ⟨i0,hi,bo,bq,bp⟩:=aZ1 Sk
 obtain ⟨Z,hZ⟩:=gQx (Em.dR vs k)
 have HZ:Hid (Z=Em.dR vs k):=hZ
 have HH:Hid (eK E ns P w kb k/\k.net.first.length+ns.length≤k.net.code.length+E/\Ro A P w/\(∀b,P b->b<w.heap.size)):=⟨h,ac,hR,h.2.2⟩
 have HV:Hid ((∀x∈vs,x.name.length≤maxLen)/\(∀x∈vs,jF x.first)/\(∀x∈vs,x.name∈ns)/\n=vs.length):=⟨bn,ab,br,hn⟩
 have HG:Hid (0<n->ad=some ⟨gd,0,none⟩/\A gd):=hg
 have bw:Hid (∀(i:Nat) (a:bQ),vs[i]?=some a->w.cell? ⟨gd,i*3,none⟩=some (.int .i64 (a.kind:Int))/\w.cell? ⟨gd,i*3+1,none⟩=some (sv a.name)/\w.cell? ⟨gd,i*3+2,none⟩=some (.int .i64 a.first)):=ah
 clear hV bn ab br h ac hR hn hZ hg ah bz
 go_enter Tryz.func70,Tryz.ntmps70
 go_upto_region 1 with fail
 go_loopg [9] n (fun f i wr=>∃(j:Nat) (kj:Kd),f=n-j/\j≤n/\i=.int .i64 (j:Int)/\Hid (Z=Em.dR (vs.drop j) kj/\At (E+j) ns P kb w k wr kj/\kj.net.first.length+ns.length≤kj.net.code.length+(E+j)))
 case atStart=>exact ⟨0,k,by omega,by omega,rfl,HZ.out,At.start HH.out.1,HH.out.2.1⟩
 case round=>
  obtain ⟨j,kj,rfl,hj,rfl,hr⟩:=hrel
  obtain ⟨ap,⟨hC,I,av⟩,az⟩:=hr.out
  by_cases hlt:j<n
  ·obtain ⟨x,hx⟩:∃x:bQ,vs[j]?=some x:=⟨_,aN4 (by rw[<-HV.out.2.2.2];exact hlt)⟩
   have ar:=aP1 hx
   have kp:bB A A w wr:=HH.out.2.2.1.keep I
   obtain ⟨c0,c1,c2⟩:=bw.out j x hx
   have au:=(HG.out (by omega)).2
   have c0:=cL kp au c0
   have c1:=cL kp au c1
   have c2:=cL kp au c2
   have bg:=ixV ad gd n cap j hlt (fun hp=>(HG.out hp).1)
   obtain ⟨o,ho⟩:=gQx (j*3)
   rw[<-ho] at c0 c1 c2 bg
   obtain ⟨S,hS⟩:∃S,Value.string S=sv x.name:=⟨_,rfl⟩
   rw[<-hS] at c1
   obtain ⟨K,hK⟩:∃K:Int,K=(x.kind:Int):=⟨_,rfl⟩
   rw[<-hK] at c0
   obtain ⟨F,an⟩:∃F:Int,F=x.first:=⟨_,rfl⟩
   rw[<-an] at c2
   obtain ⟨p,hp⟩:=gQx kj.net.places
   obtain ⟨V,hV⟩:=gQx (wr.alloc (.cells #[.int .i64 K,.string S,.int .i64 F] 126))
   obtain ⟨q,hq⟩:=gQx wr.heap.size
   have ax:Below wr.heap.size wr V:=by rw[hV];exact aL _ _
   have ak:V.heap[q]?=some (.cells #[.int .i64 K,.string S,.int .i64 F] 126 (0,0)):=by rw[hV,hq];exact aX wr _
   have bh:V.heap.size=wr.heap.size+1:=by rw[hV];simp
   obtain ⟨Pj,bc⟩:∃Pj:Nat->Prop,Pj=Up P w wr:=⟨_,rfl⟩
   rw[<-bc] at hC
   have aw:=hC.below ax
   have ab:jF F:=by rw[an];exact HV.out.2.1 x ar
   have ay:E+j<1000000:=by omega
   have Y:Hid (eK (E+j) ns Pj V kb kj/\Pj=Up P w wr/\bM P w wr/\k.net.places≤kj.net.places/\kj.net.first.length+ns.length≤kj.net.code.length+(E+j)/\Z=Em.dR (vs.drop j) kj/\vs[j]?=some x/\K=(x.kind:Int)/\F=x.first/\Value.string S=sv x.name/\p=kj.net.places/\x.name.length≤maxLen/\x.name∈ns/\jF F):=⟨aw,bc,I,av,az,ap,hx,hK,an,hS,hp,HV.out.1 x ar,HV.out.2.2.1 x ar,ab⟩
   have X:Hid (V.heap[q]?=some (.cells #[.int .i64 K,.string S,.int .i64 F] 126 (0,0))/\¬Pj q/\q=wr.heap.size/\V.heap.size=wr.heap.size+1/\Below wr.heap.size wr V):=⟨ak,fun hp=>by have:=hC.2.2 q hp;omega,hq,bh,ax⟩
   have v0:=aF ak 0 (u:=.int .i64 K) rfl
   have v1:=aF ak 1 (u:=.string S) rfl
   have v2:=aF ak 2 (u:=.int .i64 F) rfl
   have ai:=yL (x:=F) aw ay ab
   have aa:=Lz (x:=F) aw ay ab
   rw[<-hp] at ai aa
   by_cases hk1:x.kind=1
   ·have t1:(K==1)=true:=by rw[hK];simp;omega
    have t2:(K==2)=false:=by rw[hK];simp;omega
    have am:Hid (x.kind=1):=hk1
    clear hr ap az hC I av ar kp au ho hS hK an hp bc aw ab ay ax ak bh hx
    go_upto_region 4 with fail
    rw[<-hV,<-hq]
    clear hV hq bg c0 c1 c2
    clear aa
    go_upto_region 6 with (go_at_call 114;refine ai.mono ?_;rintro e w1 ⟨rfl,h1⟩)
    clear ai
    obtain ⟨⟨c,hc,U⟩,hF,ae,J⟩:=h1.out
    have hr:w1.ownsRow 0 3 1 (c.v 2) (aU kj F).net.ins.length ((aU kj F).net.ins.map (Value.int .i64)):=hc.row 2 (by omega) (by omega)
    obtain ⟨ao,ag,e1⟩:=aP hr
    have d1:=hc.cell 2 (u:=c.v 2) rfl
    have l:=J.heap X.out.1 X.out.2.1
    have HC:Hid (CM (Up Pj V w1) w1 kb (aU kj F) c/\c.v 2=.slice ao (aU kj F).net.ins.length ag/\bM Pj V w1/\c.nv+1≤kj.net.first.length+1/\rQ (E+j+1) ns (aU kj F)):=⟨hc,e1,J,U,hF⟩
    rw[e1] at d1 hr
    have hl:=hF.few
    have bb:=hF.ins
    obtain ⟨m,hm⟩:=gQx ((aU kj F).net.ins.length)
    have HM:Hid (m=(aU kj F).net.ins.length):=hm
    rw[<-hm] at d1 hr bb
    have aj:=hc.hk
    have bk:=aB aj
    have HK:Hid (w1.heap[kb]?=some (.cells (c.cells (aU kj F).net.places).toArray 135 (0,0))/\∀g,(Value.slice ao m ag).ownBlock=some g->g≠kb):=⟨aj,fun g hg e=>by
     have h1:=hc.pr 2 g (by omega) (by omega) (by rw[e1,<-hm];exact hg)
     rw[e,hc.p0.2] at h1;exact absurd h1.2 (by omega)⟩
    have bm:m≤1004000:=by omega
    have z0:=aF l 0 (u:=.int .i64 K) rfl
    clear hc hF e1 hm aj hl bb J h1 U ae
    go_upto_region 8 with (at_builtin;refine wpList_append_own_at _ rfl (.tmp 25) (.tmp 27) 23 rfl 0 3 i0 _ 1 8 Tryz.underlying23 hi bo bq bp rfl (by decide) _ _ _ rfl (hr.alloc _) ⟨w1.heap.size,0,none⟩ 1 1 [.int .i64 p] rfl rfl (eN _ _ _) (by intro u hu;simp at hu;subst hu;rfl) (by unfold maxLen;omega) (by omega) (by simp) ?_;intro v5 w5 D y _ ah;obtain ⟨a5,m5,e5⟩:=aP D;subst e5;have al:w5.heap[kb]?=some (.cells (c.cells (aU kj F).net.places).toArray 135 (0,0)):=by { rw[y.block kb (by simp;omega) (fun e=>(HK.out.2 kb e.symm) rfl),eB HK.out.1] };have d2:=aF al 2 (u:=c.v 2) rfl;have f1:=aG al 2)
    have HX:Hid (CM1 (E+j+1) ns (Up Pj V (w5.setCell ⟨kb,2,none⟩ (.slice a5 (m+1) m5))) (w5.setCell ⟨kb,2,none⟩ (.slice a5 (m+1) m5)) kb (nM (aU kj F) p)/\bM Pj V (w5.setCell ⟨kb,2,none⟩ (.slice a5 (m+1) m5))):=by
     obtain ⟨hC,e1,I,U,hF⟩:=HC.out
     rw[<-HM.out] at e1
     obtain ⟨g1,g2⟩:=hC.grow (i:=2) (by omega) (by omega) (w0:=w1.alloc (.cells #[.int .i64 p] 3)) (n5:=(nM (aU kj F) p).net) (aL _ _) (new:=[.int .i64 p]) (by show World.ownsRow _ _ _ _ _ ((aU kj F).net.ins.length+1) _;rw[<-HM.out];exact D) (by rw[e1];exact y) (by rw[e1];exact ah) rfl (fun j hj=>by unfold rB pP;split<;>first|exact absurd rfl hj|exact ⟨rfl,rfl⟩) ⟨by simp[rB,nM],by simp[pP,nM]⟩
     have bj:kj.net.first.length+1=(nM (aU kj F) p).net.first.length:=by simp[nM,aU]
     have cb:kj.net.ins.length≤kj.net.first.length:=Y.out.1.2.1.ins
     have ac:=Y.out.2.2.2.2.1
     refine ⟨⟨⟨_,g1.mono (Up.up I.size g2.size),by rw[<-bj];exact U⟩,hF.ofPot ?_ rfl rfl rfl rfl rfl (by show (kj.net.ins++[p]).length≤(kj.net.first++[F]).length;rw[aO9,aO9];simp;omega) hF.outs hF.vf hF.out,iI Y.out.1.2.2 (I.up g2).size,?_⟩,I.up g2⟩
     ·show (kj.net.first++[F]).length+ns.length≤kj.net.code.length+(E+j+1)
      rw[aO9];simp;omega
     ·show (kj.net.first++[F]).length+ns.length≤kj.net.code.length+(E+j+1)
      rw[aO9];simp;omega
    obtain ⟨W2,ba⟩:=gQx (w5.setCell ⟨kb,2,none⟩ (.slice a5 (m+1) m5))
    rw[<-ba] at HX ⊢
    clear ba D y ah al d2 f1 HK HC HM hr d1 bm bk l z0
    have bv:=aF (HX.out.2.heap X.out.1 X.out.2.1) 0 (u:=.int .i64 K) rfl
    go_upto_region 10 with fail
    clear bv
    have l:=HX.out.2.heap X.out.1 X.out.2.1
    have z1:=aF l 1 (u:=.string S) rfl
    have z2:=aF l 2 (u:=.int .i64 F) rfl
    obtain ⟨mv,w6,m7,bi,af,r⟩:=HX.out.1.put (s:=x.name) (v:=⟨p,-1,F⟩) Y.out.2.2.2.2.2.2.2.2.2.2.2.1 Y.out.2.2.2.2.2.2.2.2.2.2.2.2.1 Y.out.2.2.2.2.2.2.2.2.2.2.2.2.2 (.string S) Y.out.2.2.2.2.2.2.2.2.2.1
    have HL:Hid (Z=Em.dR (vs.drop (j+1)) (jU (nM (aU kj F) p) x.name ⟨p,-1,F⟩)/\At (E+(j+1)) ns P kb w k w6 (jU (nM (aU kj F) p) x.name ⟨p,-1,F⟩)/\(kj.net.first++[F]).length+ns.length≤kj.net.code.length+(E+(j+1))):=by
     obtain ⟨l1,l2,l3,l4,l5,l6,l7,l8,l9,l10,be,_,_,_⟩:=Y.out
     have O:bM Pj V w6:=HX.out.2.up r
     have s1:=X.out.2.2.2.2.size
     have s2:=O.size
     have Q:bM P w w6:=(l3.trans (bM.of_below (P:=fun _=>False) X.out.2.2.2.2) fun _ _ h=>h.elim).trans O (fun b hb hp=>by rw[l2] at hp;exact hp.elim id fun h=>absurd h.1 (by omega))
     refine ⟨?_,⟨af.mono (fun b hb=>?_) (iI HH.out.2.2.2 Q.size),Q,?_⟩,by rw[aO9];simp;omega⟩
     ·rw[l6,dT l7,It am.out,l9,be]
     ·rcases hb with hb|hb
      ·rw[l2] at hb
       exact Up.size (by omega) b hb
      ·have s3:=l3.size
       exact .inr ⟨by omega,aO5 hb.2 r.size⟩
     ·show k.net.places≤kj.net.places+1
      omega
    clear HX af r l
    go_region
    all_goals
     go_wp2_with fail
     go_roundg (n-(j+1))
     case measure=>omega
     case rel=>exact ⟨j+1,_,rfl,by omega,by go_num,HL.out⟩
   by_cases hk3:x.kind=2
   ·have t1:(K==1)=false:=by rw[hK];simp;omega
    have t2:(K==2)=true:=by rw[hK];simp;omega
    have am:Hid (x.kind=2):=hk3
    clear hr ap az hC I av ar kp au ho hS hK an hp bc aw ab ay ax ak bh hx
    go_upto_region 4 with fail
    rw[<-hV,<-hq]
    clear hV hq bg c0 c1 c2
    clear ai
    go_upto_region 9 with (go_at_call 115;refine aa.mono ?_;rintro e w1 ⟨rfl,h1⟩;have bf:=h1.out.2.2.2.heap X.out.1 X.out.2.1;have zx:=aF bf 0 (u:=.int .i64 K) rfl)
    clear aa bf zx
    obtain ⟨⟨c,hc,U⟩,hF,ae,J⟩:=h1.out
    have hr:w1.ownsRow 0 3 1 (c.v 3) (bF (aU kj F) p).net.outs.length ((bF (aU kj F) p).net.outs.map (Value.int .i64)):=hc.row 3 (by omega) (by omega)
    obtain ⟨ao,ag,e1⟩:=aP hr
    have d1:=hc.cell 3 (u:=c.v 3) rfl
    have l:=J.heap X.out.1 X.out.2.1
    have HC:Hid (CM (Up Pj V w1) w1 kb (bF (aU kj F) p) c/\c.v 3=.slice ao (bF (aU kj F) p).net.outs.length ag/\bM Pj V w1/\c.nv+1≤kj.net.first.length+1/\rQ (E+j+1) ns (bF (aU kj F) p)):=⟨hc,e1,J,U,hF⟩
    rw[e1] at d1 hr
    have hl:=hF.few
    have bb:=hF.outs
    obtain ⟨m,hm⟩:=gQx ((bF (aU kj F) p).net.outs.length)
    have HM:Hid (m=(bF (aU kj F) p).net.outs.length):=hm
    rw[<-hm] at d1 hr bb
    have aj:=hc.hk
    have bk:=aB aj
    have HK:Hid (w1.heap[kb]?=some (.cells (c.cells (bF (aU kj F) p).net.places).toArray 135 (0,0))/\∀g,(Value.slice ao m ag).ownBlock=some g->g≠kb):=⟨aj,fun g hg e=>by
     have h1:=hc.pr 3 g (by omega) (by omega) (by rw[e1,<-hm];exact hg)
     rw[e,hc.p0.2] at h1;exact absurd h1.2 (by omega)⟩
    have bm:m≤1004000:=by omega
    have z0:=aF l 0 (u:=.int .i64 K) rfl
    clear hc hF e1 hm aj hl bb J h1 U ae
    go_upto_region 10 with (at_builtin;refine wpList_append_own_at _ rfl (.tmp 44) (.tmp 46) 23 rfl 0 3 i0 _ 1 8 Tryz.underlying23 hi bo bq bp rfl (by decide) _ _ _ rfl (hr.alloc _) ⟨w1.heap.size,0,none⟩ 1 1 [.int .i64 p] rfl rfl (eN _ _ _) (by intro u hu;simp at hu;subst hu;rfl) (by unfold maxLen;omega) (by omega) (by simp) ?_;intro v5 w5 D y _ ah;obtain ⟨a5,m5,e5⟩:=aP D;subst e5;have al:w5.heap[kb]?=some (.cells (c.cells (bF (aU kj F) p).net.places).toArray 135 (0,0)):=by { rw[y.block kb (by simp;omega) (fun e=>(HK.out.2 kb e.symm) rfl),eB HK.out.1] };have d2:=aF al 3 (u:=c.v 3) rfl;have f1:=aG al 3)
    have HX:Hid (CM1 (E+j+1) ns (Up Pj V (w5.setCell ⟨kb,3,none⟩ (.slice a5 (m+1) m5))) (w5.setCell ⟨kb,3,none⟩ (.slice a5 (m+1) m5)) kb (lV (bF (aU kj F) p) p)/\bM Pj V (w5.setCell ⟨kb,3,none⟩ (.slice a5 (m+1) m5))):=by
     obtain ⟨hC,e1,I,U,hF⟩:=HC.out
     rw[<-HM.out] at e1
     obtain ⟨g1,g2⟩:=hC.grow (i:=3) (by omega) (by omega) (w0:=w1.alloc (.cells #[.int .i64 p] 3)) (n5:=(lV (bF (aU kj F) p) p).net) (aL _ _) (new:=[.int .i64 p]) (by show World.ownsRow _ _ _ _ _ ((bF (aU kj F) p).net.outs.length+1) _;rw[<-HM.out];exact D) (by rw[e1];exact y) (by rw[e1];exact ah) rfl (fun j hj=>by unfold rB pP;split<;>first|exact absurd rfl hj|exact ⟨rfl,rfl⟩) ⟨by simp[rB,lV],by simp[pP,lV]⟩
     have bj:kj.net.first.length+1=(lV (bF (aU kj F) p) p).net.first.length:=by simp[lV,aU,bF]
     have cb:kj.net.outs.length≤kj.net.first.length:=Y.out.1.2.1.outs
     have ac:=Y.out.2.2.2.2.1
     refine ⟨⟨⟨_,g1.mono (Up.up I.size g2.size),by rw[<-bj];exact U⟩,hF.ofPot ?_ rfl rfl rfl rfl rfl hF.ins (by show (kj.net.outs++[p]).length≤(kj.net.first++[F]).length;rw[aO9,aO9];simp;omega) hF.vf hF.out,iI Y.out.1.2.2 (I.up g2).size,?_⟩,I.up g2⟩
     ·show (kj.net.first++[F]).length+ns.length≤kj.net.code.length+(E+j+1)
      rw[aO9];simp;omega
     ·show (kj.net.first++[F]).length+ns.length≤kj.net.code.length+(E+j+1)
      rw[aO9];simp;omega
    obtain ⟨W2,ba⟩:=gQx (w5.setCell ⟨kb,3,none⟩ (.slice a5 (m+1) m5))
    rw[<-ba] at HX ⊢
    clear ba D y ah al d2 f1 HK HC HM hr d1 bm bk l z0
    have l:=HX.out.2.heap X.out.1 X.out.2.1
    have z1:=aF l 1 (u:=.string S) rfl
    have z2:=aF l 2 (u:=.int .i64 F) rfl
    obtain ⟨mv,w6,m7,bi,af,r⟩:=HX.out.1.put (s:=x.name) (v:=⟨p,-1,F⟩) Y.out.2.2.2.2.2.2.2.2.2.2.2.1 Y.out.2.2.2.2.2.2.2.2.2.2.2.2.1 Y.out.2.2.2.2.2.2.2.2.2.2.2.2.2 (.string S) Y.out.2.2.2.2.2.2.2.2.2.1
    have HL:Hid (Z=Em.dR (vs.drop (j+1)) (jU (lV (bF (aU kj F) p) p) x.name ⟨p,-1,F⟩)/\At (E+(j+1)) ns P kb w k w6 (jU (lV (bF (aU kj F) p) p) x.name ⟨p,-1,F⟩)/\(kj.net.first++[F]).length+ns.length≤kj.net.code.length+(E+(j+1))):=by
     obtain ⟨l1,l2,l3,l4,l5,l6,l7,l8,l9,l10,be,_,_,_⟩:=Y.out
     have O:bM Pj V w6:=HX.out.2.up r
     have s1:=X.out.2.2.2.2.size
     have s2:=O.size
     have Q:bM P w w6:=(l3.trans (bM.of_below (P:=fun _=>False) X.out.2.2.2.2) fun _ _ h=>h.elim).trans O (fun b hb hp=>by rw[l2] at hp;exact hp.elim id fun h=>absurd h.1 (by omega))
     refine ⟨?_,⟨af.mono (fun b hb=>?_) (iI HH.out.2.2.2 Q.size),Q,?_⟩,by rw[aO9];simp;omega⟩
     ·rw[l6,dT l7,Cb am.out,l9,be]
     ·rcases hb with hb|hb
      ·rw[l2] at hb
       exact Up.size (by omega) b hb
      ·have s3:=l3.size
       exact .inr ⟨by omega,aO5 hb.2 r.size⟩
     ·show k.net.places≤kj.net.places+1
      omega
    clear HX af r l
    go_region
    all_goals
     go_wp2_with fail
     go_roundg (n-(j+1))
     case measure=>omega
     case rel=>exact ⟨j+1,_,rfl,by omega,by go_num,HL.out⟩
   ·have t1:(K==1)=false:=by rw[hK];simp;omega
    have t2:(K==2)=false:=by rw[hK];simp;omega
    have am:Hid (x.kind≠1/\x.kind≠2):=⟨hk1,hk3⟩
    clear hr ap az hC I av ar kp au ho hS hK an hp bc aw ab ay ax ak bh hx
    go_upto_region 4 with fail
    rw[<-hV,<-hq]
    clear hV hq bg c0 c1 c2
    clear ai
    go_upto_region 10 with (go_at_call 115;refine aa.mono ?_;rintro e W2 ⟨rfl,h1⟩;have bf:=h1.out.2.2.2.heap X.out.1 X.out.2.1;have zx:=aF bf 0 (u:=.int .i64 K) rfl)
    have HX:Hid (CM1 (E+j+1) ns (Up Pj V W2) W2 kb (bF (aU kj F) p)/\bM Pj V W2):=by
     obtain ⟨⟨c,hc,U⟩,hF,ae,J⟩:=h1.out
     have ac:=Y.out.2.2.2.2.1
     refine ⟨⟨⟨c,hc,by show c.nv+1≤(kj.net.first++[F]).length;rw[aO9];exact U⟩,hF,ae,?_⟩,J⟩
     show (kj.net.first++[F]).length+ns.length≤kj.net.code.length+(E+j+1)
     rw[aO9];simp;omega
    clear aa bf zx h1
    have l:=HX.out.2.heap X.out.1 X.out.2.1
    have z1:=aF l 1 (u:=.string S) rfl
    have z2:=aF l 2 (u:=.int .i64 F) rfl
    obtain ⟨mv,w6,m7,bi,af,r⟩:=HX.out.1.put (s:=x.name) (v:=⟨p,-1,F⟩) Y.out.2.2.2.2.2.2.2.2.2.2.2.1 Y.out.2.2.2.2.2.2.2.2.2.2.2.2.1 Y.out.2.2.2.2.2.2.2.2.2.2.2.2.2 (.string S) Y.out.2.2.2.2.2.2.2.2.2.1
    have HL:Hid (Z=Em.dR (vs.drop (j+1)) (jU (bF (aU kj F) p) x.name ⟨p,-1,F⟩)/\At (E+(j+1)) ns P kb w k w6 (jU (bF (aU kj F) p) x.name ⟨p,-1,F⟩)/\(kj.net.first++[F]).length+ns.length≤kj.net.code.length+(E+(j+1))):=by
     obtain ⟨l1,l2,l3,l4,l5,l6,l7,l8,l9,l10,be,_,_,_⟩:=Y.out
     have O:bM Pj V w6:=HX.out.2.up r
     have s1:=X.out.2.2.2.2.size
     have s2:=O.size
     have Q:bM P w w6:=(l3.trans (bM.of_below (P:=fun _=>False) X.out.2.2.2.2) fun _ _ h=>h.elim).trans O (fun b hb hp=>by rw[l2] at hp;exact hp.elim id fun h=>absurd h.1 (by omega))
     refine ⟨?_,⟨af.mono (fun b hb=>?_) (iI HH.out.2.2.2 Q.size),Q,?_⟩,by rw[aO9];simp;omega⟩
     ·rw[l6,dT l7,Ca am.out.1 am.out.2,l9,be]
     ·rcases hb with hb|hb
      ·rw[l2] at hb
       exact Up.size (by omega) b hb
      ·have s3:=l3.size
       exact .inr ⟨by omega,aO5 hb.2 r.size⟩
     ·show k.net.places≤kj.net.places+1
      omega
    clear HX af r l
    go_region
    all_goals
     go_wp2_with fail
     go_roundg (n-(j+1))
     case measure=>omega
     case rel=>exact ⟨j+1,_,rfl,by omega,by go_num,HL.out⟩
  ·have HF:Hid (∃k',Em.dR vs k=some ((),k')/\At (E+n) ns P kb w k wr k'):=by
    have bu:j=n:=by omega
    refine ⟨kj,?_,by rw[<-bu];exact ⟨hC,I,av⟩⟩
    rw[<-HZ.out,ap,aX1 (by rw[<-HV.out.2.2.2];omega)]
    rfl
   clear hr ap az hC I av
   go_wp2_with fail
   go_end0
   exact ⟨rfl,HF⟩
end
open Px.Em (eQ eR jP Rg)
theorem zM {α β γ:Type}{m:Em.M α}{f:α->Em.M β}{g:β->Em.M γ}{k:Kd}:((m >>= f) >>= g) k=(m >>= fun x=>f x >>= g) k:=by
 cases hm:m k with
 | none=>rw[aH hm,aH (aH hm)]
 | some p=>
  obtain ⟨a,c⟩:=p
  rw[bind_some hm]
  cases hf:f a c with
  | none=>rw[aH (show (m >>= f) k=none by rw[bind_some hm];exact hf),aH hf]
  | some q=>
   obtain ⟨b,k2⟩:=q
   rw[bind_some (show (m >>= f) k=some (b,k2) by rw[bind_some hm];exact hf),bind_some hf]
theorem pA {α β γ:Type}{m:Em.M α}{f:α->Em.M β}{g:β->Em.M γ}:((m >>= f) >>= g)=(m >>= fun x=>f x >>= g):=funext fun _=>zM
theorem lA {A A':Nat->Prop}{w w':World}(k:bB A A' w w') {b:Nat}{o:Obj}(ha:A b) (h:w.heap[b]?=some o):w'.heap[b]?=some o:=by rw[(k b ha (aB h)).2];exact h
def qG (A:Nat->Prop) (kb E:Nat) (ns:List bE) (d:Nat):Prop:=∀{P:Nat->Prop}{w:World}{k:Kd}{v:Value}{l:List (Rg d)}{so:Int},Yr A w (fH A d w) v l->(∀r∈l,eS ns d r)->eK E ns P w kb k->Ro A P w->
 Calls prog 212 #[.pointer (some ⟨kb,0,none⟩),v,.int .i64 so] w (fJ E ns P kb w k (Em.dI (Em.aJ d) l so k) (fun _=>.tuple #[]))
section
variable {P A:Nat->Prop}{w wr w2:World}{kb E d:Nat}{ns:List bE}{k kj k2:Kd}
theorem As:qG A kb E ns 0:=by
 intro P w k v l u D _ h _
 obtain ⟨O,g,cap,rfl,J,s,j⟩:=D
 have n:l=[]:=by
  cases l with
  | nil=>rfl
  | cons a r=>obtain ⟨_,_,I⟩:=j 0 a rfl;exact I.elim
 subst n
 have y:Hid (fJ E ns P kb w k (Em.dI (Em.aJ 0) [] u k) (fun _=>.tuple #[]) (.returned (.tuple #[])) w):=At.ends (At.start h) (a:=()) (val:=fun _=>.tuple #[]) rfl
 have c:([]:List (Rg 0)).length=0:=rfl
 rw[c]
 clear h J s j c
 go_enter Tryz.func212,Tryz.ntmps212
 go_wp2_with fail
 go_loopg [14] 0 (fun f i wr=>f=0/\i=.int .i64 0/\wr=w)
 case atStart=>exact ⟨rfl,rfl,rfl⟩
 case round=>
  obtain ⟨rfl,rfl,rfl⟩:=hrel
  go_wp2_with fail
  go_end0
  exact y.out
theorem A6 {g:jP (St d) (Rg d)}{l:List (Rg (d+1))}{so:Int}:Em.dI (Em.aJ (d+1)) (g::l) so k=(Em.leave (Em.aJ d) g so >>= fun _=>Em.dI (Em.aJ (d+1)) l so) k:=rfl
theorem Fc {g:jP (St d) (Rg d)}{so:Int}(h:so=-1\/g.leaves=false):Em.leave (Em.aJ d) g so k=some ((),k):=by unfold Em.leave;rw[if_pos h];rfl
theorem Ru {g:jP (St d) (Rg d)}{so:Int}(h:¬(so=-1\/g.leaves=false)):Em.leave (Em.aJ d) g so k=(Em.given so g.there >>= fun here=>Em.jI (Em.aJ d) here g.states 0) k:=by unfold Em.leave;rw[if_neg h]
theorem Fe {here:Int}{s:eR (St d) (Rg d)}{l:List (eR (St d) (Rg d))}{i:Nat}(h:s.leaves=true):Em.jI (Em.aJ d) here (s::l) i k=(Em.is here i >>= fun gone=>Em.dI (Em.aJ d) s.inside gone >>= fun _=>Em.vM gone s.drawn.leave >>= fun _=>Em.jI (Em.aJ d) here l (i+1)) k:=by rw[Em.jI,if_pos h]
theorem Lr {here:Int}{s:eR (St d) (Rg d)}{l:List (eR (St d) (Rg d))}{i:Nat}(h:s.leaves=false):Em.jI (Em.aJ d) here (s::l) i k=Em.jI (Em.aJ d) here l (i+1) k:=by rw[Em.jI,if_neg (by rw[h];simp)]
theorem eH {α β:Type}{m m':Em.M α}{f:α->Em.M β}{k c:Kd}(h:m k=m' c):(m >>= f) k=(m' >>= f) c:=by
 show (m k).bind _=(m' c).bind _
 rw[h]
theorem aE5 (hE:E<1000000) (ih:qG A kb E ns d):qG A kb E ns (d+1):=by
 intro P w k v l so hv ap h hR
 obtain ⟨ad,g,cap,rfl,am,hg,aw⟩:=hv
 obtain ⟨N,hN⟩:=gQx l.length
 rw[<-hN] at am hg ⊢
 have HN:Hid (N=l.length):=hN
 have HG:Hid (0<N->ad=some ⟨g,0,none⟩/\A g):=hg
 have ay:Hid (∀j r,l[j]?=some r->∃gr,w.cell? ⟨g,j,none⟩=some (.pointer (some ⟨gr,0,none⟩))/\Nu A w (fH A d w) r gr):=aw
 have ax:Hid (∀r∈l,Od ns (eS ns d) r):=ap
 have HC:Hid (eK E ns P w kb k/\Ro A P w/\qG A kb E ns d):=⟨h,hR,ih⟩
 have HP:Hid (∀b,P b->b<w.heap.size):=h.2.2
 obtain ⟨X,hX⟩:=gQx (Em.dI (Em.aJ (d+1)) l so k)
 have HX:Hid (X=Em.dI (Em.aJ (d+1)) l so k):=hX
 rw[<-hX]
 have ba:(N:Int)≤9223372036854775807:=by unfold maxLen at am;omega
 clear ap h hR ih am hg aw hN hX
 go_enter Tryz.func212,Tryz.ntmps212
 go_wp2_with fail
 go_loopg [14] N (fun f i wr=>∃(j:Nat) (kj:Kd),f=N-j/\j≤N/\i=.int .i64 (j:Int)/\Hid (X=Em.dI (Em.aJ (d+1)) (l.drop j) so kj/\At E ns P kb w k wr kj))
 case atStart=>exact ⟨0,k,by omega,by omega,rfl,HX.out,At.start HC.out.1⟩
 case round=>
  obtain ⟨j,kj,rfl,hj,rfl,hr⟩:=hrel
  by_cases hlt:j<N
  ·obtain ⟨r,hs⟩:∃r:jP (St d) (Rg d),l[j]?=some r:=⟨l[j]'(by rw[<-HN.out];exact hlt),aN4 _⟩
   obtain ⟨y,c⟩:=hr.out
   obtain ⟨gr,c0,az⟩:=ay.out j r hs
   have Q:=c.keep HC.out.2.1
   have ae:=Xp ad g N cap j hlt (fun hp=>(HG.out hp).1)
   have c0:=cL Q (HG.out (by omega)).2 c0
   obtain ⟨gS,aS,cS,vo,ac,ag,hS,_,al⟩:=az
   have hF:=ax.out r (aP1 hs)
   obtain ⟨M,hM⟩:=gQx r.states.length
   rw[<-hM] at ac hS
   obtain ⟨lv,I⟩:=gQx r.leaves
   rw[<-I] at ac
   have U:=lA Q ag ac
   have g5:=aF U 5 (u:=.bool lv) rfl
   have af:Hid (X=(Em.leave (Em.aJ d) r so >>= fun _=>Em.dI (Em.aJ (d+1)) (l.drop (j+1)) so) kj):=by rw[Hid,y,dT hs];exact A6
   by_cases hskip:so=-1\/lv=false
   ·have aa:Hid (X=Em.dI (Em.aJ (d+1)) (l.drop (j+1)) so kj/\At E ns P kb w k wr kj):=⟨af.out.trans (bind_some (Fc (by rw[<-I];exact hskip))),c⟩
    clear hr y c Q U ac ag hS al hF hM I af hs
    by_cases hso:so=-1
    ·have t:(so == -1)=true:=by simpa using hso
     clear hskip hso
     go_wp2_with fail
     go_roundg (N-(j+1))
     case measure=>omega
     case rel=>exact ⟨j+1,kj,rfl,by omega,by go_num,aa.out⟩
    ·have t:(so == -1)=false:=by simpa using hso
     obtain rfl:lv=false:=by rcases hskip with h|h;exact absurd h hso;exact h
     clear hskip hso
     go_wp2_with fail
     go_roundg (N-(j+1))
     case measure=>omega
     case rel=>exact ⟨j+1,kj,rfl,by omega,by go_num,aa.out⟩
   ·have t:(so == -1)=false:=by rw[beq_eq_false_iff_ne];exact fun e=>hskip (.inl e)
    obtain rfl:lv=true:=by cases lv;exact absurd (.inr rfl) hskip;rfl
    have g3:=aF U 3 (u:=.int .i64 r.there) rfl
    have a0:Hid (At E ns P kb w k wr kj):=c
    have e0:Hid (X=(Em.given so r.there >>= fun here=>Em.jI (Em.aJ d) here r.states 0 >>= fun _=>Em.dI (Em.aJ (d+1)) (l.drop (j+1)) so) kj):=af.out.trans ((eH (Ru (g:=r) (by rw[<-I];simpa using hskip))).trans zM)
    have Y:=aA2 so r.there c.1 hE
    have HM:Hid (M=r.states.length/\M≤1000000/\Od ns (eS ns d) r):=⟨hM,by rw[hM];exact hF.n,hF⟩
    have bb:(M:Int)≤1000000:=by have:=hF.n;omega
    have ab:Hid (w.heap[gr]?=some (.cells #[.slice aS M cS,vo,.int .i64 r.first,.int .i64 r.there,.bool r.idle,.bool true] 188 (0,0))/\A gr/\(0<M->aS=some ⟨gS,0,none⟩/\A gS)/\∀i s,r.states[i]?=some s->∃gd od,vS A w (fH A d w) gS (i*5) s gd od):=⟨ac,ag,hS,al⟩
    clear hr y c Q U ac ag hS al hF hM I af hs hskip
    go_upto_region 5 with (go_at_call 209;refine Y.mono ?_;rintro e w1 (⟨rfl,J,O⟩|⟨x1,k1,rfl,J,O⟩);(· exact ⟨rfl,At.ran HP.out a0.out e0.out (.inl ⟨rfl,aH J.out,O⟩)⟩);have a1:Hid (At E ns P kb w k w1 k1):=a0.out.step HP.out O.out;have e1:Hid _:=e0.out.trans (bind_some J.out);clear J O Y)
    clear g3 g5 c0 ae
    have av:=lA (a1.out.keep HC.out.2.1) ab.out.2.1 ab.out.1
    have g0:=aF av 0 (u:=.slice aS M cS) rfl
    clear av a0 e0
    go_wp2_with fail
    clear g0
    go_loopg [39] M (fun f i wm=>∃(m:Nat) (km:Kd),f=M-m/\m≤M/\i=.int .i64 (m:Int)/\Hid (X=(Em.jI (Em.aJ d) x1 (r.states.drop m) m >>= fun _=>Em.dI (Em.aJ (d+1)) (l.drop (j+1)) so) km/\At E ns P kb w k wm km))
    case atStart=>exact ⟨0,k1,by omega,by omega,rfl,e1.out,a1.out⟩
    case round=>
     obtain ⟨m,km,rfl,hm,rfl,hr⟩:=hrel
     obtain ⟨y,c⟩:=hr.out
     by_cases hltm:m<M
     ·obtain ⟨s,hs⟩:∃s:eR (St d) (Rg d),r.states[m]?=some s:=⟨r.states[m]'(by rw[<-HM.out.1];exact hltm),aN4 _⟩
      obtain ⟨gd,od,Z⟩:=ab.out.2.2.2 m s hs
      have Q:=c.keep HC.out.2.1
      have D:=Z.carry Q (fH.carry d Q)
      have ae:=Se aS gS M cS m hltm (fun hp=>(ab.out.2.2.1 hp).1)
      have U:=lA Q ab.out.2.1 ab.out.1
      have g0:=aF U 0 (u:=.slice aS M cS) rfl
      have ak:=HM.out.2.2.st s (aP1 hs)
      obtain ⟨o,ho⟩:=gQx (m*5)
      rw[<-ho] at D ae
      obtain ⟨lv,I⟩:=gQx s.leaves
      have q4:=D.leaves
      rw[<-I] at q4
      cases lv with
      | false=>
       have aa:Hid (X=(Em.jI (Em.aJ d) x1 (r.states.drop (m+1)) (m+1) >>= fun _=>Em.dI (Em.aJ (d+1)) (l.drop (j+1)) so) km/\At E ns P kb w k wr km):=⟨y.trans (eH (m':=Em.jI (Em.aJ d) x1 (r.states.drop (m+1)) (m+1)) (by rw[dT hs];exact Lr I.symm)),c⟩
       clear hr y c Z D Q U ak ho I hs
       go_wp2_with fail
       go_roundg (M-(m+1))
       case measure=>omega
       case rel=>exact ⟨m+1,km,rfl,by omega,by go_num,aa.out⟩
      | true=>
       have ar:=aE4 x1 m (by omega) c.1 hE
       have a1:Hid (At E ns P kb w k wr km):=c
       have e1:Hid (X=(Em.is x1 m >>= fun gone=>Em.dI (Em.aJ d) s.inside gone >>= fun _=>Em.vM gone s.drawn.leave >>= fun _=>Em.jI (Em.aJ d) x1 (r.states.drop (m+1)) (m+1) >>= fun _=>Em.dI (Em.aJ (d+1)) (l.drop (j+1)) so) km):=by
        have hy:=Fe (k:=km) (here:=x1) (l:=r.states.drop (m+1)) (i:=m) I.symm
        rw[<-dT hs] at hy
        refine y.trans ((eH hy).trans ?_)
        simp only[pA]
       have ah:Hid (vS A w (fH A d w) gS o s gd od/\B9 ns r.states.length (eS ns d) s):=⟨by rw[ho];exact Z,ak⟩
       have q0:=D.d
       clear hr y c Z D Q U ak ho I hs
       go_upto_region 11 with (go_at_call 163;refine ar.mono ?_;rintro e w2 (⟨rfl,J,O⟩|⟨x2,k2,rfl,J,O⟩);(· exact ⟨rfl,At.ran HP.out a1.out e1.out (.inl ⟨rfl,aH J.out,O⟩)⟩);have a2:Hid (At E ns P kb w k w2 k2):=a1.out.step HP.out O.out;have e2:Hid _:=e1.out.trans (bind_some J.out);clear J O ar)
       have Q:=a2.out.keep HC.out.2.1
       have D:=ah.out.1.carry Q (fH.carry d Q)
       obtain ⟨vi,q2,au⟩:=D.iy
       have aj:=HC.out.2.2 (so:=x2) au ah.out.2.sub a2.out.1 (a2.out.ro HC.out.2.1)
       obtain ⟨ai,gi,ci,rfl,_⟩:=au
       clear D Q g0 q4 q0 ae a1 e1
       go_upto_region 12 with (go_at_call 212;refine aj.mono ?_;rintro e w3 (⟨rfl,J,O⟩|⟨_,k3,rfl,J,O⟩);(· exact ⟨rfl,At.ran HP.out a2.out e2.out (.inl ⟨rfl,aH J.out,O⟩)⟩);have a3:Hid (At E ns P kb w k w3 k3):=a2.out.step HP.out O.out;have e3:Hid _:=e2.out.trans (bind_some J.out);clear J O aj)
       have Q:=a3.out.keep HC.out.2.1
       have D:=ah.out.1.carry Q (fH.carry d Q)
       obtain ⟨vl,q5,an⟩:=D.le
       have ao:=aA8 (so:=x2) ah.out.2.le an a3.out.1 (a3.out.ro HC.out.2.1) hE
       have q0:=D.d
       obtain ⟨va,vn,vc,rfl⟩:=an.sl'
       clear D Q q2 a2 e2 an
       go_wp2_with (go_at_call 208;refine ao.mono ?_;rintro e w4 (⟨rfl,J,O⟩|⟨_,k4,rfl,J,O⟩);(· exact ⟨rfl,At.ran HP.out a3.out e3.out (.inl ⟨rfl,aH J.out,O⟩)⟩);have a4:Hid (At E ns P kb w k w4 k4):=a3.out.step HP.out O.out;have e4:Hid _:=e3.out.trans (bind_some J.out);clear J O ao)
       go_roundg (M-(m+1))
       case measure=>omega
       case rel=>exact ⟨m+1,k4,rfl,by omega,by go_num,e4.out,a4.out⟩
     ·obtain rfl:m=M:=by omega
      have aa:Hid (X=Em.dI (Em.aJ (d+1)) (l.drop (j+1)) so km/\At E ns P kb w k wr km):=⟨y.trans (bind_some (by rw[HM.out.1,aR4];rfl)),c⟩
      clear hr y c
      go_wp2_with fail
      go_roundg (N-(j+1))
      case measure=>omega
      case rel=>exact ⟨j+1,km,rfl,by omega,by go_num,aa.out⟩
  ·obtain rfl:j=N:=by omega
   obtain ⟨y,c⟩:=hr.out
   have HF:Hid (fJ E ns P kb w k X (fun _=>.tuple #[]) (.returned (.tuple #[])) wr):=At.ends c (a:=()) (val:=fun _=>.tuple #[]) (by rw[y,HN.out,aR4];rfl)
   clear hr y c
   go_wp2_with fail
   go_end0
   exact HF.out
theorem Yg (hE:E<1000000):∀d,qG A kb E ns d
 | 0=>As
 | d+1=>aE5 hE (Yg hE d)
end
section
variable {P A:Nat->Prop}{w wr w2:World}{kb E d:Nat}{ns:List bE}{k kj k2:Kd}
theorem xJ (s:Sp) (h:eK E ns P w kb k) :
 Calls prog 119 #[.pointer (some ⟨kb,0,none⟩),.agg #[.int .i64 s.code,.int .i64 s.dst,.int .i64 s.a,.int .i64 s.b,.int .i64 s.c]] w (fJ E ns P kb w k (Em.add s k) (fun _=>.tuple #[])):=by
 by_cases hcl:4000≤k.net.code.length
 ·exact (X8 s h hcl).mono fun e w' ⟨he,hf⟩=>.inl ⟨he,if_pos hcl,hf⟩
 ·exact (Gz (E:=E) s h (by omega) h.2.1.e (by omega)).mono fun e w' ⟨he,hf⟩=>.inr ⟨(),_,he,if_neg hcl,hf.out.1,hf.out.2,Int.le_refl _⟩
theorem aH5 (hE:E<1000000):∀(d:Nat) {P:Nat->Prop}{w:World}{k:Kd}{r:Rg d}{g:Nat},fH A d w r g->eS ns d r->eK E ns P w kb k->Ro A P w->
 Calls prog 244 #[.pointer (some ⟨kb,0,none⟩),.pointer (some ⟨g,0,none⟩)] w (fJ E ns P kb w k ((Em.aJ d).over r k) (Value.int .i64))
 | 0,_,_,_,_,_,h,_,_,_=>h.elim
 | d+1,_,_,_,_,_,h,hk,hc,hR=>aH1 (σ:=St d) (ρ:=Rg d) h (Od.n hk) hc hR hE
def Aj (y:eQ) (so2:Int):Em.M Int:=if y.left=-1 then pure so2 else (Em.add ⟨7,y.left,y.left,so2,0⟩ >>= fun _=>Em.made 13 y.left so2 0)
def opC (y:eQ) (so1:Int):Em.M Int:=if Em.Er y.drawn.cond then pure so1 else (Em.eP y.drawn.cond >>= fun x=>Em.tX so1 x)
def yM (y:eQ) (so1:Int):Em.M Int:=if so1=-1 then pure (-1) else (opC y so1 >>= Aj y)
def Zz {σ ρ:Type}(O:Em.xM σ ρ) (s:eR σ ρ) (y:eQ) (so0:Int):Em.M Int:=if y.drawn.kind=2 then Em.wP O s.inside so0 else pure so0
theorem Mi {σ ρ:Type}{O:Em.xM σ ρ}{s:eR σ ρ}{y:eQ}{so0:Int}:Em.pX O s y so0=(Zz O s y so0 >>= yM y):=by
 unfold Em.pX Zz yM opC Aj
 by_cases h:y.drawn.kind=2<;>by_cases h2:Em.Er y.drawn.cond=true<;>by_cases h3:y.left=-1<;>simp only[h,h2,h3,if_true,if_false,Bool.false_eq_true,pure_bind,pA]
theorem Fl {g:Rg d}{l:List (Rg d)}{so:Int}:Em.wP (Em.aJ d) (g::l) so k=((Em.aJ d).over g >>= fun x=>Em.tX so x >>= fun so'=>Em.wP (Em.aJ d) l so') k:=rfl
theorem Qy (u:Option Addr) (w:World):(binOp BinOp.neq 220 (.pointer u) (.pointer none)).run prog w=.ok (.bool u.isSome) w:=by cases u<;>kernel_rfl
theorem Hx {e:Px.E}{u:Option Addr}(h:jR A w e (.pointer u)):u.isSome=!Em.Er e:=by
 cases e with
 | nil=>have h:=h;injection h with h;rw[h];rfl
 | node _ _ _ _ _=>obtain ⟨g,_,_,h,_⟩:=h;injection h with h;rw[h];rfl
theorem aF4 (hE:E<1000000) {gS o gd od n gW oW:Nat}{s:eR (St d) (Rg d)}{y:eQ}{so0:Int}(hs:vS A w (fH A d w) gS o s gd od) (hK:B9 ns n (eS ns d) s) (ar:A gW) (hy:B6 A w gW oW y) (al:xK ns n y) (h:eK E ns P w kb k) (hR:Ro A P w) :
 Calls prog 229 #[.pointer (some ⟨kb,0,none⟩),.pointer (some ⟨gS,o,none⟩),.pointer (some ⟨gW,oW,none⟩),.int .i64 so0] w (fJ E ns P kb w k (Em.pX (Em.aJ d) s y so0 k) (Value.int .i64)):=by
 obtain ⟨X,hX⟩:=gQx (Em.pX (Em.aJ d) s y so0 k)
 have HX:Hid (X=(Zz (Em.aJ d) s y so0 >>= yM y) k):=by rw[Hid,hX,Mi]
 rw[<-hX]
 obtain ⟨gy,oy,pc,qs,y0,an,ah⟩:=hy.d
 obtain ⟨kd,ag⟩:∃kd:Int,kd=(y.drawn.kind:Int):=⟨_,rfl⟩
 have m0:=ah.1
 rw[<-ag] at m0
 obtain ⟨vi,q2,ba⟩:=hs.iy
 obtain ⟨ai,gi,ci,rfl,am,aj,av⟩:=ba
 obtain ⟨N,hN⟩:=gQx s.inside.length
 rw[<-hN] at q2 am aj
 have HY:Hid (B6 A w gW oW y/\A gW/\w.cell? ⟨gW,oW,none⟩=some (.pointer (some ⟨gy,oy,none⟩))/\A gy/\jE A w gy oy y.drawn pc qs/\xK ns n y):=⟨hy,ar,y0,an,ah,al⟩
 have HI:Hid ((0<N->ai=some ⟨gi,0,none⟩/\A gi)/\(∀j r,s.inside[j]?=some r->∃gr,w.cell? ⟨gi,j,none⟩=some (.pointer (some ⟨gr,0,none⟩))/\fH A d w r gr)/\N=s.inside.length/\∀r∈s.inside,eS ns d r):=⟨aj,av,hN,hK.sub⟩
 have HC:Hid (eK E ns P w kb k/\Ro A P w):=⟨h,hR⟩
 have HP:Hid (∀b,P b->b<w.heap.size):=h.2.2
 have be:(N:Int)≤1000000:=by have:=hK.il;omega
 obtain ⟨B,hB⟩:∃B,(kd==2)=B:=⟨_,rfl⟩
 have ap:Hid (B=true↔y.drawn.kind=2):=by rw[Hid,<-hB,beq_iff_eq,ag];omega
 clear hs hK ar hy al h hR hX an ah ag am aj av hN
 go_enter Tryz.func229,Tryz.ntmps229
 go_upto_if 18 with fail
 clear hB
 go_cut [3] (fun s3 wx=>∃(I:Int) (k1:Kd),s3=.int .i64 I/\Hid (X=yM y I k1/\At E ns P kb w k wx k1))
 case first=>
  cases B with
  | true=>
   have ab:y.drawn.kind=2:=ap.out.1 rfl
   have HJ:Hid (X=(Em.wP (Em.aJ d) s.inside so0 >>= yM y) k):=by rw[Hid,HX.out];unfold Zz;rw[if_pos ab]
   clear ab
   go_wp2_with fail
   clear q2 m0 y0
   go_loopg [3,24] N (fun f sv i wr=>∃(j:Nat) (so:Int) (kj:Kd),f=N-j/\j≤N/\sv=.int .i64 so/\i=.int .i64 (j:Int)/\Hid (X=(Em.wP (Em.aJ d) (s.inside.drop j) so >>= yM y) kj/\At E ns P kb w k wr kj))
   case atStart=>exact ⟨0,so0,k,by omega,by omega,rfl,rfl,HJ.out,At.start HC.out.1⟩
   case round=>
    obtain ⟨j,so,kj,rfl,hj,rfl,rfl,hr⟩:=hrel
    obtain ⟨ae,U⟩:=hr.out
    by_cases hlt:j<N
    ·obtain ⟨r,hs⟩:∃r:Rg d,s.inside[j]?=some r:=⟨s.inside[j]'(by rw[<-HI.out.2.2.1];exact hlt),aN4 _⟩
     obtain ⟨gr,c0,au⟩:=HI.out.2.1 j r hs
     have O:=U.keep HC.out.2
     have bc:=Xp ai gi N ci j hlt (fun hp=>(HI.out.1 hp).1)
     have c0:=cL O (HI.out.1 (by omega)).2 c0
     have ao:=aH5 hE d (fH.carry d O _ _ au) (HI.out.2.2.2 r (aP1 hs)) U.1 (U.ro HC.out.2)
     have a0:Hid (At E ns P kb w k wr kj):=U
     have e0:Hid (X=((Em.aJ d).over r >>= fun x=>Em.tX so x >>= fun az=>Em.wP (Em.aJ d) (s.inside.drop (j+1)) az >>= yM y) kj):=by
      have hy:=Fl (k:=kj) (g:=r) (l:=s.inside.drop (j+1)) (so:=so)
      rw[<-dT hs] at hy
      refine ae.trans ((eH hy).trans ?_)
      simp only[pA]
     clear hr ae U au O hs
     go_wp2_with (first
      | (go_at_call 244;refine ao.mono ?_;rintro e w1 (⟨rfl,u,D⟩|⟨x1,k1,rfl,u,D⟩);(· exact ⟨rfl,At.ran HP.out a0.out e0.out (.inl ⟨rfl,aH u.out,D⟩)⟩);have a1:Hid (At E ns P kb w k w1 k1):=a0.out.step HP.out D.out;have e1:Hid _:=e0.out.trans (bind_some u.out);clear u D ao;have Q:=tW so x1 a1.out.1 hE)
      | (go_at_call 232;refine Q.mono ?_;rintro e w2 (⟨rfl,u,D⟩|⟨x2,k2,rfl,u,D⟩);(· exact ⟨rfl,At.ran HP.out a1.out e1.out (.inl ⟨rfl,aH u.out,D⟩)⟩);have a2:Hid (At E ns P kb w k w2 k2):=a1.out.step HP.out D.out;have e2:Hid _:=e1.out.trans (bind_some u.out);clear u D Q))
     go_roundg (N-(j+1))
     case measure=>omega
     case rel=>exact ⟨j+1,x2,k2,rfl,by omega,rfl,by go_num,e2.out,a2.out⟩
    ·obtain rfl:j=N:=by omega
     have ac:Hid (X=yM y so kj/\At E ns P kb w k wr kj):=⟨ae.trans (bind_some (by rw[HI.out.2.2.1,aR4];rfl)),U⟩
     clear hr ae U
     go_wp2_with fail
     go_meet
     case rel=>exact ⟨so,kj,rfl,ac.out⟩
  | false=>
   have ab:¬y.drawn.kind=2:=fun h=>absurd (ap.out.2 h) (by simp)
   have ac:Hid (X=yM y so0 k/\At E ns P kb w k w k):=⟨by rw[HX.out];unfold Zz;rw[if_neg ab];rfl,At.start HC.out.1⟩
   clear ab
   go_wp2_with fail
   go_meet
   case rel=>exact ⟨so0,k,rfl,ac.out⟩
 case rest=>
  obtain ⟨I,k1,rfl,Y⟩:=hcut
  clear q2 m0 y0
  by_cases hso:I=-1
  ·have t:(I == -1)=true:=by simpa using hso
   have HF:Hid (fJ E ns P kb w k X (Value.int .i64) (.returned (.int .i64 (-1))) wc):=At.ends Y.out.2 (by rw[Y.out.1];unfold yM;rw[if_pos hso];rfl)
   clear Y hso
   go_wp2_with fail
   go_ret
   exact HF.out
  ·have t:(I == -1)=false:=by simpa using hso
   have O:=Y.out.2.keep HC.out.2
   have y0:=cL O HY.out.2.1 HY.out.2.2.1
   have m2:=cL O HY.out.2.2.2.1 HY.out.2.2.2.2.1.2.2.1
   obtain ⟨B2,ak⟩:∃B2,pc.isSome=B2:=⟨_,rfl⟩
   have ax:∀w,(binOp BinOp.neq 220 (.pointer pc) (.pointer none)).run prog w=.ok (.bool B2) w:=fun w=>by rw[<-ak];exact Qy pc w
   have aw:Hid (B2=!Em.Er y.drawn.cond):=by rw[Hid,<-ak];exact Hx HY.out.2.2.2.2.1.2.2.2.2.2.2.2.1
   have a0:Hid (At E ns P kb w k wc k1):=Y.out.2
   have e0:Hid (X=(opC y I >>= Aj y) k1):=by rw[Hid,Y.out.1];unfold yM;rw[if_neg hso]
   clear Y hso O ak
   go_upto_if 44 with fail
   clear t ax
   go_cut [3] (fun s3 wx=>∃(J:Int) (k2:Kd),s3=.int .i64 J/\Hid (X=Aj y J k2/\At E ns P kb w k wx k2))
   case first=>
    cases B2 with
    | true=>
     have aa:Em.Er y.drawn.cond=false:=by have:=aw.out;cases h:Em.Er y.drawn.cond;rfl;rw[h] at this;exact absurd this (by simp)
     have e1:Hid (X=(Em.eP y.drawn.cond >>= fun x=>Em.tX I x >>= Aj y) k1):=by
      rw[Hid,e0.out]
      unfold opC
      rw[aa,if_neg (by simp)]
      simp only[pA]
     have O:=a0.out.keep HC.out.2
     have hex:=lN (A:=A) (kb:=kb) (ns:=ns) hE y.drawn.cond HY.out.2.2.2.2.2.c (HY.out.2.2.2.2.1.2.2.2.2.2.2.2.1.carry O) a0.out.1 (a0.out.ro HC.out.2)
     have a1:=a0
     clear aa O a0 e0
     go_wp2_with (first
      | (go_at_call 206;refine hex.mono ?_;rintro e w2 (⟨rfl,u,D⟩|⟨x2,k2,rfl,u,D⟩);(· exact ⟨rfl,At.ran HP.out a1.out e1.out (.inl ⟨rfl,aH u.out,D⟩)⟩);have a2:Hid (At E ns P kb w k w2 k2):=a1.out.step HP.out D.out;have e2:Hid _:=e1.out.trans (bind_some u.out);clear u D hex;have Q:=tW I x2 a2.out.1 hE)
      | (go_at_call 232;refine Q.mono ?_;rintro e w3 (⟨rfl,u,D⟩|⟨x3,k3,rfl,u,D⟩);(· exact ⟨rfl,At.ran HP.out a2.out e2.out (.inl ⟨rfl,aH u.out,D⟩)⟩);have a3:Hid (At E ns P kb w k w3 k3):=a2.out.step HP.out D.out;have e3:Hid _:=e2.out.trans (bind_some u.out);clear u D Q))
     go_meet
     case rel=>exact ⟨x3,k3,rfl,e3.out,a3.out⟩
    | false=>
     have aa:Em.Er y.drawn.cond=true:=by have:=aw.out;cases h:Em.Er y.drawn.cond;rw[h] at this;exact absurd this (by simp);rfl
     have ac:Hid (X=Aj y I k1/\At E ns P kb w k wc k1):=⟨by rw[e0.out];unfold opC;rw[aa,if_pos rfl];rfl,a0.out⟩
     clear aa a0 e0
     go_wp2_with fail
     go_meet
     case rel=>exact ⟨I,k1,rfl,ac.out⟩
   case rest=>
    obtain ⟨wq,bb⟩:∃wq,wq=wc:=⟨wc,rfl⟩
    clear a0 e0 y0 m2 bb wq
    obtain ⟨J,k2,rfl,Y⟩:=hcut
    rename_i wd
    have O:=Y.out.2.keep HC.out.2
    have y2:=cL O HY.out.2.1 HY.out.1.l
    by_cases hl:y.left=-1
    ·have t:(y.left == -1)=true:=by simpa using hl
     have t':(y.left != -1)=false:=by simp[hl]
     have HF:Hid (fJ E ns P kb w k X (Value.int .i64) (.returned (.int .i64 J)) _):=At.ends Y.out.2 (by rw[Y.out.1];unfold Aj;rw[if_pos hl];rfl)
     clear Y hl O
     go_wp2_with fail
     go_ret
     exact HF.out
    ·have t:(y.left == -1)=false:=by simpa using hl
     have t':(y.left != -1)=true:=by simp[hl]
     have hdr:Below wc.heap.size wc wc.drew:=⟨rfl,rfl,rfl,aO4 _,fun _ _=>rfl⟩
     have a2:Hid (At E ns P kb w k wc.drew k2):=Y.out.2.below HP.out hdr
     have e2:Hid (X=(Em.add ⟨7,y.left,y.left,J,0⟩ >>= fun _=>Em.made 13 y.left J 0) k2):=by rw[Hid,Y.out.1];unfold Aj;rw[if_neg hl]
     have Z:=xJ ⟨7,y.left,y.left,J,0⟩ a2.out.1
     obtain ⟨lf,af⟩:=gQx y.left
     have ay:Hid (lf=y.left):=af
     rw[<-af] at y2 t t' e2 Z
     clear Y hl O hdr af
     go_upto_region 12 with fail
     go_region_law (go_simp;go_at_call 119;refine Z.mono ?_;rintro e w3 (⟨rfl,u,D⟩|⟨_,k3,rfl,u,D⟩);(· exact ⟨rfl,At.ran HP.out a2.out e2.out (.inl ⟨rfl,aH u.out,D⟩)⟩);have a3:Hid (At E ns P kb w k w3 k3):=a2.out.step HP.out D.out;have e3:Hid _:=e2.out.trans (bind_some u.out);clear u D Z)
     all_goals
      have O:=a3.out.keep HC.out.2
      have z2:=cL O HY.out.2.1 HY.out.1.l
      rw[<-ay.out] at z2
      have ad:=gU 13 lf J 0 a3.out.1 hE
      clear O
      go_wp2_with (go_at_call 205;refine ad.mono ?_;rintro e w4 (⟨rfl,u,D⟩|⟨x4,k4,rfl,u,D⟩);(· exact ⟨rfl,At.ran HP.out a3.out e3.out (.inl ⟨rfl,u.out,D⟩)⟩);have a4:Hid (At E ns P kb w k w4 k4):=a3.out.step HP.out D.out;have e4:Hid _:=e3.out.trans u.out;clear u D ad)
      go_ret
      exact At.ends a4.out e4.out
end
section
variable {P A:Nat->Prop}{w:World}{kb E:Nat}{ns:List bE}{k:Kd}
theorem aB0 {v:bQ}{r:List bQ}(h:(k.vars v.name).was=-1):Em.dN (v::r) k=Em.dN r k:=by
 show (if (k.vars v.name).was=-1 then Em.dN r else _) k=_
 rw[if_pos h]
theorem Wj {v:bQ}{r:List bQ}(h:(k.vars v.name).was≠-1):Em.dN (v::r) k=(Em.add ⟨2,(k.vars v.name).was,(k.vars v.name).now,0,0⟩ >>= fun _=>Em.dN r) k:=by
 show (if (k.vars v.name).was=-1 then Em.dN r else _) k=_
 rw[if_neg h]
theorem aD6 {vs:List bQ}{v:Value}(X:mJ A w vs v) (ai:∀x∈vs,x.name.length≤maxLen) (ar:vs.length≤100000) (h:eK E ns P w kb k) (hR:Ro A P w) :
 Calls prog 72 #[.pointer (some ⟨kb,0,none⟩),v] w (fJ E ns P kb w k (Em.dN vs k) (fun _=>.tuple #[])):=by
 obtain ⟨ad,gd,cap,rfl,am,hg,aj⟩:=Zj X
 obtain ⟨n,hn⟩:=gQx vs.length
 rw[<-hn] at hg ar ⊢
 obtain ⟨Z,hZ⟩:=gQx (Em.dN vs k)
 have HZ:Hid (Z=Em.dN vs k):=hZ
 rw[<-hZ]
 have HH:Hid (eK E ns P w kb k/\Ro A P w):=⟨h,hR⟩
 have HP:Hid (∀b,P b->b<w.heap.size):=h.2.2
 have HV:Hid ((∀x∈vs,x.name.length≤maxLen)/\n=vs.length):=⟨ai,hn⟩
 have HG:Hid (0<n->ad=some ⟨gd,0,none⟩/\A gd):=hg
 have ap:Hid (∀(i:Nat) (a:bQ),vs[i]?=some a->w.cell? ⟨gd,i*3,none⟩=some (.int .i64 (a.kind:Int))/\w.cell? ⟨gd,i*3+1,none⟩=some (sv a.name)/\w.cell? ⟨gd,i*3+2,none⟩=some (.int .i64 a.first)):=aj
 clear X ai h hR hn hZ hg aj am
 go_enter Tryz.func72,Tryz.ntmps72
 go_upto_region 1 with fail
 go_loopg [9] n (fun f i wr=>∃(j:Nat) (kj:Kd),f=n-j/\j≤n/\i=.int .i64 (j:Int)/\Hid (Z=Em.dN (vs.drop j) kj/\At E ns P kb w k wr kj))
 case atStart=>exact ⟨0,k,by omega,by omega,rfl,HZ.out,At.start HH.out.1⟩
 case round=>
  obtain ⟨j,kj,rfl,hj,rfl,hr⟩:=hrel
  obtain ⟨D,hA⟩:=hr.out
  by_cases hlt:j<n
  ·obtain ⟨x,hx⟩:∃x:bQ,vs[j]?=some x:=⟨_,aN4 (by rw[<-HV.out.2];exact hlt)⟩
   have Y:=aP1 hx
   have kp:bB A A w wr:=hA.keep HH.out.2
   obtain ⟨c0,c1,c2⟩:=ap.out j x hx
   have s:=(HG.out (by omega)).2
   have c0:=cL kp s c0
   have c1:=cL kp s c1
   have c2:=cL kp s c2
   have ac:=ixV ad gd n cap j hlt (fun hp=>(HG.out hp).1)
   obtain ⟨o,ho⟩:=gQx (j*3)
   rw[<-ho] at c0 c1 c2 ac
   obtain ⟨S,hS⟩:∃S,Value.string S=sv x.name:=⟨_,rfl⟩
   rw[<-hS] at c1
   obtain ⟨K,hK⟩:∃K:Int,K=(x.kind:Int):=⟨_,rfl⟩
   rw[<-hK] at c0
   obtain ⟨F,ag⟩:∃F:Int,F=x.first:=⟨_,rfl⟩
   rw[<-ag] at c2
   obtain ⟨V,X⟩:=gQx (wr.alloc (.cells #[.int .i64 K,.string S,.int .i64 F] 126))
   obtain ⟨q,hq⟩:=gQx wr.heap.size
   have ah:Below wr.heap.size wr V:=by rw[X];exact aL _ _
   have ae:V.heap[q]?=some (.cells #[.int .i64 K,.string S,.int .i64 F] 126 (0,0)):=by rw[X,hq];exact aX wr _
   have J:=hA.below HP.out ah
   have v1:=aF ae 1 (u:=.string S) rfl
   obtain ⟨c,hc⟩:=J.1.1
   have c7:=hc.cell 7 (u:=.map (some c.mv)) rfl
   obtain ⟨r,l,Q,hv⟩:∃r l Q,kj.vars x.name=⟨r,l,Q⟩:=⟨_,_,_,rfl⟩
   have al:(Instr.lookup 132 (.map (some c.mv)) (.string S) false).run prog V.drew=.ok (.agg #[.int .i64 r,.int .i64 l,.int .i64 Q]) V.drew:=by
    have U:CM (Up P w V) V.drew kb kj c:=hc.carry fun b hb _=>⟨hb,rfl⟩
    rw[hS,U.lookV (HV.out.1 x Y),hv];rfl
   have y:=aL V (.cells #[.int .i64 0,.int .i64 0,.int .i64 0] 183)
   have af:(Instr.lookup 132 (.map (some c.mv)) (.string S) false).run prog (V.alloc (.cells #[.int .i64 0,.int .i64 0,.int .i64 0] 183)).drew=.ok (.agg #[.int .i64 r,.int .i64 l,.int .i64 Q]) (V.alloc (.cells #[.int .i64 0,.int .i64 0,.int .i64 0] 183)).drew:=by
    have U:CM (Up P w V) (V.alloc (.cells #[.int .i64 0,.int .i64 0,.int .i64 0] 183)).drew kb kj c:=(hc.below y).carry fun b hb _=>⟨hb,rfl⟩
    rw[hS,U.lookV (HV.out.1 x Y),hv];rfl
   have an:=aN y v1
   have ao:=aN y c7
   have HJ:Hid (At E ns P kb w k V kj/\Z=Em.dN (vs.drop j) kj/\vs[j]?=some x/\kj.vars x.name=⟨r,l,Q⟩):=⟨J,D,hx,hv⟩
   obtain ⟨W,hW⟩:=gQx ((V.alloc (.cells #[.int .i64 r,.int .i64 l,.int .i64 Q] 183)).drew)
   obtain ⟨q2,ab⟩:=gQx V.heap.size
   have ak:Below V.heap.size V W:=by rw[hW];exact (aL _ _).drew
   have aa:W.heap[q2]?=some (.cells #[.int .i64 r,.int .i64 l,.int .i64 Q] 183 (0,0)):=by rw[hW,ab];exact aX V _
   have I:Hid (At E ns P kb w k W kj):=J.below HP.out ak
   have x0:=aF aa 0 (u:=.int .i64 r) rfl
   have x1:=aF aa 1 (u:=.int .i64 l) rfl
   clear hr D hA J hx Y kp s ho hS hK ag ah ae hc hv ak aa y
   go_upto_region 3 with fail
   rw[<-X,<-hq]
   clear X hq ac c0 c1 c2
   go_region
   all_goals
    rw[<-hW,<-ab]
    clear hW ab c7 al v1 af an ao
    by_cases hw:l=-1
    ·have t:(l == -1)=true:=by simpa using hw
     have t':(l != -1)=false:=by simp[hw]
     have HL:Hid (Z=Em.dN (vs.drop (j+1)) kj):=by
      obtain ⟨_,l2,l3,l4⟩:=HJ.out
      rw[Hid,l2,dT l3,aB0 (by rw[l4];exact hw)]
     clear hw
     go_wp2_with fail
     go_roundg (n-(j+1))
     case measure=>omega
     case rel=>exact ⟨j+1,kj,rfl,by omega,by go_num,HL.out,I.out⟩
    ·have t:(l == -1)=false:=by simpa using hw
     have t':(l != -1)=true:=by simp[hw]
     have HL:Hid (Z=(Em.add ⟨2,l,r,0,0⟩ >>= fun _=>Em.dN (vs.drop (j+1))) kj):=by
      obtain ⟨_,l2,l3,l4⟩:=HJ.out
      rw[Hid,l2,dT l3,Wj (by rw[l4];exact hw),l4]
     have O:=xJ ⟨2,l,r,0,0⟩ I.out.1
     clear hw
     go_wp2_with (go_at_call 119;refine O.mono ?_;rintro e w3 (⟨rfl,h0,h1⟩|⟨_,k3,rfl,h0,h1⟩);(· exact ⟨rfl,At.ran HP.out I.out HL.out (.inl ⟨rfl,aH h0.out,h1⟩)⟩);have a3:Hid (At E ns P kb w k w3 k3):=I.out.step HP.out h1.out;have e3:Hid _:=HL.out.trans (bind_some h0.out);clear h0 h1 O)
     go_roundg (n-(j+1))
     case measure=>omega
     case rel=>exact ⟨j+1,k3,rfl,by omega,by go_num,e3.out,a3.out⟩
  ·have HF:Hid (fJ E ns P kb w k Z (fun _=>.tuple #[]) (.returned (.tuple #[])) wr):=by
    refine At.ends (a:=()) hA ?_
    rw[D,aX1 (by rw[<-HV.out.2];omega)]
    rfl
   clear hr D hA
   go_wp2_with fail
   go_end0
   exact HF.out
end
end Ew
end
end Go.Proofs.YthieaobjdpfcoaaGreatDoor
