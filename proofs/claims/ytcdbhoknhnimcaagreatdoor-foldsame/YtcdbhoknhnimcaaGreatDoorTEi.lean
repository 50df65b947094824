import Derived.Test.YtcdbhoknhnimcaaGreatDoorTEf
import Derived.Test.YtcdbhoknhnimcaaGreatDoorTEh
set_option maxRecDepth 100000
set_option maxHeartbeats 16000000
namespace Go.Proofs.YtcdbhoknhnimcaaGreatDoor
section
open Go.RowKit Px
namespace Ew
open Px.Em (Kd Vr)
open Nx (Nt Sp)
section
variable {P A:Nat->Prop}{w:World}{kb E:Nat}{ns:List bB}{k:Kd}
theorem Gh {v:bJ}{r:List bJ}(h:v.kind=1):Em.dP (v::r) k=Em.dP r (jL (mW (aQ k v.first) k.net.places) v.name ⟨k.net.places,-1,v.first⟩):=by
 simp only[Em.dP,if_pos h,if_neg (show ¬v.kind=2 by omega)]
 rfl
theorem s8 {v:bJ}{r:List bJ}(h:v.kind=2):Em.dP (v::r) k=Em.dP r (jL (lI (bD (aQ k v.first) k.net.places) k.net.places) v.name ⟨k.net.places,-1,v.first⟩):=by
 simp only[Em.dP,if_neg (show ¬v.kind=1 by omega),if_pos h]
 rfl
theorem r7 {v:bJ}{r:List bJ}(h1:v.kind≠1) (h2:v.kind≠2):Em.dP (v::r) k=Em.dP r (jL (bD (aQ k v.first) k.net.places) v.name ⟨k.net.places,-1,v.first⟩):=by
 simp only[Em.dP,if_neg h1,if_neg h2]
 rfl
theorem q9 {vs:List bJ}{v:Value}(hV:lY A w vs v) (hnm:∀x∈vs,x.name.length≤maxLen) (h64:∀x∈vs,eF x.first) (hns:∀x∈vs,x.name∈ns) (hvl:vs.length≤100000) (hE0:E≤100000) (h:eG E ns P w kb k) (hpot:k.net.first.length+ns.length≤k.net.code.length+E) (hR:Ro A P w) :
    Calls Tryz.prog 95 #[.pointer (some ⟨kb,0,none⟩),v] w fun e w'=>e=.returned (.tuple #[])/\Hid (∃k',Em.dP vs k=some ((),k')/\At (E+vs.length) ns P kb w k w' k'):=by
 obtain ⟨ad,gd,cap,rfl,hmx,hg,hat⟩:=Xe hV
 obtain ⟨n,hn⟩:∃n,n=vs.length:=⟨_,rfl⟩
 rw[<-hn] at hg hvl ⊢
 obtain ⟨i0,hi,hz0,hz1,hz2⟩:=info_parts Pi
 obtain ⟨Z,hZ⟩:∃Z,Z=Em.dP vs k:=⟨_,rfl⟩
 have HZ:Hid (Z=Em.dP vs k):=hZ
 have HH:Hid (eG E ns P w kb k/\k.net.first.length+ns.length≤k.net.code.length+E/\Ro A P w/\(∀b,P b->b<w.heap.size)):=⟨h,hpot,hR,h.2.2⟩
 have HV:Hid ((∀x∈vs,x.name.length≤maxLen)/\(∀x∈vs,eF x.first)/\(∀x∈vs,x.name∈ns)/\n=vs.length):=⟨hnm,h64,hns,hn⟩
 have HG:Hid (0<n->ad=some ⟨gd,0,none⟩/\A gd):=hg
 have HAT:Hid (∀(i:Nat) (a:bJ),vs[i]?=some a->w.cell? ⟨gd,i*3,none⟩=some (.int .i64 (a.kind:Int))/\w.cell? ⟨gd,i*3+1,none⟩=some (sv a.name)/\w.cell? ⟨gd,i*3+2,none⟩=some (.int .i64 a.first)):=hat
 clear hV hnm h64 hns h hpot hR hn hZ hg hat hmx
 go_enter Tryz.func95,Tryz.ntmps95
 go_upto_region 1 with fail
 go_loopg [9] n (fun f i wr=>∃(j:Nat) (kj:Kd),f=n-j/\j≤n/\i=.int .i64 (j:Int)/\Hid (Z=Em.dP (vs.drop j) kj/\At (E+j) ns P kb w k wr kj/\kj.net.first.length+ns.length≤kj.net.code.length+(E+j)))
 case atStart=>exact ⟨0,k,by omega,by omega,rfl,HZ.out,At.start HH.out.1,HH.out.2.1⟩
 case round=>
  obtain ⟨j,kj,rfl,hj,rfl,hr⟩:=hrel
  obtain ⟨hr1,⟨hC,hfr,hpl⟩,hr3⟩:=hr.out
  by_cases hlt:j<n
  ·obtain ⟨x,hx⟩:∃x:bJ,vs[j]?=some x:=⟨_,List.getElem?_eq_getElem (by rw[<-HV.out.2.2.2];exact hlt)⟩
   have hxm:=List.mem_of_getElem? hx
   have kp:aX A A w wr:=HH.out.2.2.1.keep hfr
   obtain ⟨c0,c1,c2⟩:=HAT.out j x hx
   have hAg:=(HG.out (by omega)).2
   have c0:=cF kp hAg c0
   have c1:=cF kp hAg c1
   have c2:=cF kp hAg c2
   have hix:=ixV ad gd n cap j hlt (fun hp=>(HG.out hp).1)
   obtain ⟨o,ho⟩:∃o,o=j*3:=⟨_,rfl⟩
   rw[<-ho] at c0 c1 c2 hix
   obtain ⟨S,hS⟩:∃S,Value.string S=sv x.name:=⟨_,rfl⟩
   rw[<-hS] at c1
   obtain ⟨K,hK⟩:∃K:Int,K=(x.kind:Int):=⟨_,rfl⟩
   rw[<-hK] at c0
   obtain ⟨F,hF0⟩:∃F:Int,F=x.first:=⟨_,rfl⟩
   rw[<-hF0] at c2
   obtain ⟨p,hp⟩:∃p,p=kj.net.places:=⟨_,rfl⟩
   obtain ⟨V,hV⟩:∃V,V=wr.alloc (.cells #[.int .i64 K,.string S,.int .i64 F] 160):=⟨_,rfl⟩
   obtain ⟨q,hq⟩:∃q,q=wr.heap.size:=⟨_,rfl⟩
   have hbV:Below wr.heap.size wr V:=by rw[hV];exact aC _ _
   have hkV:V.heap[q]?=some (.cells #[.int .i64 K,.string S,.int .i64 F] 160 (0,0)):=by rw[hV,hq];exact bE wr _
   have hsV:V.heap.size=wr.heap.size+1:=by rw[hV];simp
   obtain ⟨Pj,hPj⟩:∃Pj:Nat->Prop,Pj=Up P w wr:=⟨_,rfl⟩
   rw[<-hPj] at hC
   have hCV:=hC.below hbV
   have h64:eF F:=by rw[hF0];exact HV.out.2.1 x hxm
   have hE1:E+j<1000000:=by omega
   have HJ:Hid (eG (E+j) ns Pj V kb kj/\Pj=Up P w wr/\bH P w wr/\k.net.places≤kj.net.places/\kj.net.first.length+ns.length≤kj.net.code.length+(E+j)/\Z=Em.dP (vs.drop j) kj/\vs[j]?=some x/\K=(x.kind:Int)/\F=x.first/\Value.string S=sv x.name/\p=kj.net.places/\x.name.length≤maxLen/\x.name∈ns/\eF F):=⟨hCV,hPj,hfr,hpl,hr3,hr1,hx,hK,hF0,hS,hp,HV.out.1 x hxm,HV.out.2.2.1 x hxm,h64⟩
   have HQ:Hid (V.heap[q]?=some (.cells #[.int .i64 K,.string S,.int .i64 F] 160 (0,0))/\¬Pj q/\q=wr.heap.size/\V.heap.size=wr.heap.size+1/\Below wr.heap.size wr V):=⟨hkV,fun hp=>by have:=hC.2.2 q hp;omega,hq,hsV,hbV⟩
   have v0:=aA hkV 0 (u:=.int .i64 K) rfl
   have v1:=aA hkV 1 (u:=.string S) rfl
   have v2:=aA hkV 2 (u:=.int .i64 F) rfl
   have hpl1:=xB (x:=F) hCV hE1 h64
   have hkp1:=Jl (x:=F) hCV hE1 h64
   rw[<-hp] at hpl1 hkp1
   by_cases hk1:x.kind=1
   ·have t1:(K==1)=true:=by rw[hK];simp;omega
    have t2:(K==2)=false:=by rw[hK];simp;omega
    have HKI:Hid (x.kind=1):=hk1
    clear hr hr1 hr3 hC hfr hpl hxm kp hAg ho hS hK hF0 hp hPj hCV h64 hE1 hbV hkV hsV hx
    go_upto_region 4 with fail
    rw[<-hV,<-hq]
    clear hV hq hix c0 c1 c2
    clear hkp1
    go_upto_region 6 with (go_at_call 145;refine hpl1.mono ?_;rintro e w1 ⟨rfl,h1⟩)
    clear hpl1
    obtain ⟨⟨c,hc,hnv⟩,hF,hlt1,hfr1⟩:=h1.out
    have hr:w1.ownsRow 0 3 1 (c.v 2) (aQ kj F).net.ins.length ((aQ kj F).net.ins.map (Value.int .i64)):=hc.row 2 (by omega) (by omega)
    obtain ⟨ao,cap1,e1⟩:=aJ hr
    have d1:=hc.cell 2 (u:=c.v 2) rfl
    have hqw:=hfr1.heap HQ.out.1 HQ.out.2.1
    have HC:Hid (CM (Up Pj V w1) w1 kb (aQ kj F) c/\c.v 2=.slice ao (aQ kj F).net.ins.length cap1/\bH Pj V w1/\c.nv+1≤kj.net.first.length+1/\qY (E+j+1) ns (aQ kj F)):=⟨hc,e1,hfr1,hnv,hF⟩
    rw[e1] at d1 hr
    have hl:=hF.few
    have hl2:=hF.ins
    obtain ⟨m,hm⟩:∃m,m=(aQ kj F).net.ins.length:=⟨_,rfl⟩
    have HM:Hid (m=(aQ kj F).net.ins.length):=hm
    rw[<-hm] at d1 hr hl2
    have hkk:=hc.hk
    have lkb:=aB hkk
    have HK:Hid (w1.heap[kb]?=some (.cells (c.cells (aQ kj F).net.places).toArray 168 (0,0))/\∀g,(Value.slice ao m cap1).ownBlock=some g->g≠kb):=⟨hkk,fun g hg e=>by
     have h1:=hc.pr 2 g (by omega) (by omega) (by rw[e1,<-hm];exact hg)
     rw[e,hc.p0.2] at h1;exact absurd h1.2 (by omega)⟩
    have hn6:m≤1004000:=by omega
    have z0:=aA hqw 0 (u:=.int .i64 K) rfl
    clear hc hF e1 hm hkk hl hl2 hfr1 h1 hnv hlt1
    go_upto_region 8 with (at_builtin;refine wpList_append_own_at _ rfl (.tmp 25) (.tmp 27) 23 rfl 0 3 i0 _ 1 8 Tryz.underlying23 hi hz0 hz1 hz2 rfl (by decide) _ _ _ rfl (hr.alloc _) ⟨w1.heap.size,0,none⟩ 1 1 [.int .i64 p] rfl rfl (dX _ _ _) (by intro u hu;simp at hu;subst hu;rfl) (by unfold maxLen;omega) (by omega) (by simp) ?_;intro v5 w5 hown5 hgrow _ hat;obtain ⟨a5,m5,e5⟩:=aJ hown5;subst e5;have hk5:w5.heap[kb]?=some (.cells (c.cells (aQ kj F).net.places).toArray 168 (0,0)):=by { rw[hgrow.block kb (by simp;omega) (fun e=>(HK.out.2 kb e.symm) rfl),dW HK.out.1] };have d2:=aA hk5 2 (u:=c.v 2) rfl;have f1:=aE hk5 2)
    have HX:Hid (CM1 (E+j+1) ns (Up Pj V (w5.setCell ⟨kb,2,none⟩ (.slice a5 (m+1) m5))) (w5.setCell ⟨kb,2,none⟩ (.slice a5 (m+1) m5)) kb (mW (aQ kj F) p)/\bH Pj V (w5.setCell ⟨kb,2,none⟩ (.slice a5 (m+1) m5))):=by
     obtain ⟨hC,e1,hfr,hnv,hF⟩:=HC.out
     rw[<-HM.out] at e1
     obtain ⟨g1,g2⟩:=hC.grow (i:=2) (by omega) (by omega) (w0:=w1.alloc (.cells #[.int .i64 p] 3)) (n5:=(mW (aQ kj F) p).net) (aC _ _) (new:=[.int .i64 p]) (by show World.ownsRow _ _ _ _ _ ((aQ kj F).net.ins.length+1) _;rw[<-HM.out];exact hown5) (by rw[e1];exact hgrow) (by rw[e1];exact hat) rfl (fun j hj=>by unfold qH oV;split<;>first|exact absurd rfl hj|exact ⟨rfl,rfl⟩) ⟨by simp[qH,mW],by simp[oV,mW]⟩
     have hlk:kj.net.first.length+1=(mW (aQ kj F) p).net.first.length:=by simp[mW,aQ]
     have hin:kj.net.ins.length≤kj.net.first.length:=HJ.out.1.2.1.ins
     have hpot:=HJ.out.2.2.2.2.1
     refine ⟨⟨⟨_,g1.mono (Up.up hfr.size g2.size),by rw[<-hlk];exact hnv⟩,hF.ofPot ?_ rfl rfl rfl rfl rfl (by show (kj.net.ins++[p]).length≤(kj.net.first++[F]).length;rw[List.length_append,List.length_append];simp;omega) hF.outs hF.vf hF.out,fL HJ.out.1.2.2 (hfr.up g2).size,?_⟩,hfr.up g2⟩
     ·show (kj.net.first++[F]).length+ns.length≤kj.net.code.length+(E+j+1)
      rw[List.length_append];simp;omega
     ·show (kj.net.first++[F]).length+ns.length≤kj.net.code.length+(E+j+1)
      rw[List.length_append];simp;omega
    obtain ⟨W2,hW2⟩:∃W2,W2=w5.setCell ⟨kb,2,none⟩ (.slice a5 (m+1) m5):=⟨_,rfl⟩
    rw[<-hW2] at HX ⊢
    clear hW2 hown5 hgrow hat hk5 d2 f1 HK HC HM hr d1 hn6 lkb hqw z0
    have z00:=aA (HX.out.2.heap HQ.out.1 HQ.out.2.1) 0 (u:=.int .i64 K) rfl
    go_upto_region 10 with fail
    clear z00
    have hqw:=HX.out.2.heap HQ.out.1 HQ.out.2.1
    have z1:=aA hqw 1 (u:=.string S) rfl
    have z2:=aA hqw 2 (u:=.int .i64 F) rfl
    obtain ⟨mv,w6,m7,hrun,hC6,hfr6⟩:=HX.out.1.put (s:=x.name) (v:=⟨p,-1,F⟩) HJ.out.2.2.2.2.2.2.2.2.2.2.2.1 HJ.out.2.2.2.2.2.2.2.2.2.2.2.2.1 HJ.out.2.2.2.2.2.2.2.2.2.2.2.2.2 (.string S) HJ.out.2.2.2.2.2.2.2.2.2.1
    have HL:Hid (Z=Em.dP (vs.drop (j+1)) (jL (mW (aQ kj F) p) x.name ⟨p,-1,F⟩)/\At (E+(j+1)) ns P kb w k w6 (jL (mW (aQ kj F) p) x.name ⟨p,-1,F⟩)/\(kj.net.first++[F]).length+ns.length≤kj.net.code.length+(E+(j+1))):=by
     obtain ⟨l1,l2,l3,l4,l5,l6,l7,l8,l9,l10,l11,_,_,_⟩:=HJ.out
     have hfrV:bH Pj V w6:=HX.out.2.up hfr6
     have s1:=HQ.out.2.2.2.2.size
     have s2:=hfrV.size
     have hfrW:bH P w w6:=(l3.trans (bH.of_below (P:=fun _=>False) HQ.out.2.2.2.2) fun _ _ h=>h.elim).trans hfrV (fun b hb hp=>by rw[l2] at hp;exact hp.elim id fun h=>absurd h.1 (by omega))
     refine ⟨?_,⟨hC6.mono (fun b hb=>?_) (fL HH.out.2.2.2 hfrW.size),hfrW,?_⟩,by rw[List.length_append];simp;omega⟩
     ·rw[l6,dR l7,Gh HKI.out,l9,l11]
     ·rcases hb with hb|hb
      ·rw[l2] at hb
       exact Up.size (by omega) b hb
      ·have s3:=l3.size
       exact .inr ⟨by omega,Nat.lt_of_lt_of_le hb.2 hfr6.size⟩
     ·show k.net.places≤kj.net.places+1
      omega
    clear HX hC6 hfr6 hqw
    go_region
    all_goals
     go_wp2_with fail
     go_roundg (n-(j+1))
     case measure=>omega
     case rel=>exact ⟨j+1,_,rfl,by omega,by go_num,HL.out⟩
   by_cases hk3:x.kind=2
   ·have t1:(K==1)=false:=by rw[hK];simp;omega
    have t2:(K==2)=true:=by rw[hK];simp;omega
    have HKI:Hid (x.kind=2):=hk3
    clear hr hr1 hr3 hC hfr hpl hxm kp hAg ho hS hK hF0 hp hPj hCV h64 hE1 hbV hkV hsV hx
    go_upto_region 4 with fail
    rw[<-hV,<-hq]
    clear hV hq hix c0 c1 c2
    clear hpl1
    go_upto_region 9 with (go_at_call 146;refine hkp1.mono ?_;rintro e w1 ⟨rfl,h1⟩;have hqx:=h1.out.2.2.2.heap HQ.out.1 HQ.out.2.1;have zx:=aA hqx 0 (u:=.int .i64 K) rfl)
    clear hkp1 hqx zx
    obtain ⟨⟨c,hc,hnv⟩,hF,hlt1,hfr1⟩:=h1.out
    have hr:w1.ownsRow 0 3 1 (c.v 3) (bD (aQ kj F) p).net.outs.length ((bD (aQ kj F) p).net.outs.map (Value.int .i64)):=hc.row 3 (by omega) (by omega)
    obtain ⟨ao,cap1,e1⟩:=aJ hr
    have d1:=hc.cell 3 (u:=c.v 3) rfl
    have hqw:=hfr1.heap HQ.out.1 HQ.out.2.1
    have HC:Hid (CM (Up Pj V w1) w1 kb (bD (aQ kj F) p) c/\c.v 3=.slice ao (bD (aQ kj F) p).net.outs.length cap1/\bH Pj V w1/\c.nv+1≤kj.net.first.length+1/\qY (E+j+1) ns (bD (aQ kj F) p)):=⟨hc,e1,hfr1,hnv,hF⟩
    rw[e1] at d1 hr
    have hl:=hF.few
    have hl2:=hF.outs
    obtain ⟨m,hm⟩:∃m,m=(bD (aQ kj F) p).net.outs.length:=⟨_,rfl⟩
    have HM:Hid (m=(bD (aQ kj F) p).net.outs.length):=hm
    rw[<-hm] at d1 hr hl2
    have hkk:=hc.hk
    have lkb:=aB hkk
    have HK:Hid (w1.heap[kb]?=some (.cells (c.cells (bD (aQ kj F) p).net.places).toArray 168 (0,0))/\∀g,(Value.slice ao m cap1).ownBlock=some g->g≠kb):=⟨hkk,fun g hg e=>by
     have h1:=hc.pr 3 g (by omega) (by omega) (by rw[e1,<-hm];exact hg)
     rw[e,hc.p0.2] at h1;exact absurd h1.2 (by omega)⟩
    have hn6:m≤1004000:=by omega
    have z0:=aA hqw 0 (u:=.int .i64 K) rfl
    clear hc hF e1 hm hkk hl hl2 hfr1 h1 hnv hlt1
    go_upto_region 10 with (at_builtin;refine wpList_append_own_at _ rfl (.tmp 44) (.tmp 46) 23 rfl 0 3 i0 _ 1 8 Tryz.underlying23 hi hz0 hz1 hz2 rfl (by decide) _ _ _ rfl (hr.alloc _) ⟨w1.heap.size,0,none⟩ 1 1 [.int .i64 p] rfl rfl (dX _ _ _) (by intro u hu;simp at hu;subst hu;rfl) (by unfold maxLen;omega) (by omega) (by simp) ?_;intro v5 w5 hown5 hgrow _ hat;obtain ⟨a5,m5,e5⟩:=aJ hown5;subst e5;have hk5:w5.heap[kb]?=some (.cells (c.cells (bD (aQ kj F) p).net.places).toArray 168 (0,0)):=by { rw[hgrow.block kb (by simp;omega) (fun e=>(HK.out.2 kb e.symm) rfl),dW HK.out.1] };have d2:=aA hk5 3 (u:=c.v 3) rfl;have f1:=aE hk5 3)
    have HX:Hid (CM1 (E+j+1) ns (Up Pj V (w5.setCell ⟨kb,3,none⟩ (.slice a5 (m+1) m5))) (w5.setCell ⟨kb,3,none⟩ (.slice a5 (m+1) m5)) kb (lI (bD (aQ kj F) p) p)/\bH Pj V (w5.setCell ⟨kb,3,none⟩ (.slice a5 (m+1) m5))):=by
     obtain ⟨hC,e1,hfr,hnv,hF⟩:=HC.out
     rw[<-HM.out] at e1
     obtain ⟨g1,g2⟩:=hC.grow (i:=3) (by omega) (by omega) (w0:=w1.alloc (.cells #[.int .i64 p] 3)) (n5:=(lI (bD (aQ kj F) p) p).net) (aC _ _) (new:=[.int .i64 p]) (by show World.ownsRow _ _ _ _ _ ((bD (aQ kj F) p).net.outs.length+1) _;rw[<-HM.out];exact hown5) (by rw[e1];exact hgrow) (by rw[e1];exact hat) rfl (fun j hj=>by unfold qH oV;split<;>first|exact absurd rfl hj|exact ⟨rfl,rfl⟩) ⟨by simp[qH,lI],by simp[oV,lI]⟩
     have hlk:kj.net.first.length+1=(lI (bD (aQ kj F) p) p).net.first.length:=by simp[lI,aQ,bD]
     have hin:kj.net.outs.length≤kj.net.first.length:=HJ.out.1.2.1.outs
     have hpot:=HJ.out.2.2.2.2.1
     refine ⟨⟨⟨_,g1.mono (Up.up hfr.size g2.size),by rw[<-hlk];exact hnv⟩,hF.ofPot ?_ rfl rfl rfl rfl rfl hF.ins (by show (kj.net.outs++[p]).length≤(kj.net.first++[F]).length;rw[List.length_append,List.length_append];simp;omega) hF.vf hF.out,fL HJ.out.1.2.2 (hfr.up g2).size,?_⟩,hfr.up g2⟩
     ·show (kj.net.first++[F]).length+ns.length≤kj.net.code.length+(E+j+1)
      rw[List.length_append];simp;omega
     ·show (kj.net.first++[F]).length+ns.length≤kj.net.code.length+(E+j+1)
      rw[List.length_append];simp;omega
    obtain ⟨W2,hW2⟩:∃W2,W2=w5.setCell ⟨kb,3,none⟩ (.slice a5 (m+1) m5):=⟨_,rfl⟩
    rw[<-hW2] at HX ⊢
    clear hW2 hown5 hgrow hat hk5 d2 f1 HK HC HM hr d1 hn6 lkb hqw z0
    have hqw:=HX.out.2.heap HQ.out.1 HQ.out.2.1
    have z1:=aA hqw 1 (u:=.string S) rfl
    have z2:=aA hqw 2 (u:=.int .i64 F) rfl
    obtain ⟨mv,w6,m7,hrun,hC6,hfr6⟩:=HX.out.1.put (s:=x.name) (v:=⟨p,-1,F⟩) HJ.out.2.2.2.2.2.2.2.2.2.2.2.1 HJ.out.2.2.2.2.2.2.2.2.2.2.2.2.1 HJ.out.2.2.2.2.2.2.2.2.2.2.2.2.2 (.string S) HJ.out.2.2.2.2.2.2.2.2.2.1
    have HL:Hid (Z=Em.dP (vs.drop (j+1)) (jL (lI (bD (aQ kj F) p) p) x.name ⟨p,-1,F⟩)/\At (E+(j+1)) ns P kb w k w6 (jL (lI (bD (aQ kj F) p) p) x.name ⟨p,-1,F⟩)/\(kj.net.first++[F]).length+ns.length≤kj.net.code.length+(E+(j+1))):=by
     obtain ⟨l1,l2,l3,l4,l5,l6,l7,l8,l9,l10,l11,_,_,_⟩:=HJ.out
     have hfrV:bH Pj V w6:=HX.out.2.up hfr6
     have s1:=HQ.out.2.2.2.2.size
     have s2:=hfrV.size
     have hfrW:bH P w w6:=(l3.trans (bH.of_below (P:=fun _=>False) HQ.out.2.2.2.2) fun _ _ h=>h.elim).trans hfrV (fun b hb hp=>by rw[l2] at hp;exact hp.elim id fun h=>absurd h.1 (by omega))
     refine ⟨?_,⟨hC6.mono (fun b hb=>?_) (fL HH.out.2.2.2 hfrW.size),hfrW,?_⟩,by rw[List.length_append];simp;omega⟩
     ·rw[l6,dR l7,s8 HKI.out,l9,l11]
     ·rcases hb with hb|hb
      ·rw[l2] at hb
       exact Up.size (by omega) b hb
      ·have s3:=l3.size
       exact .inr ⟨by omega,Nat.lt_of_lt_of_le hb.2 hfr6.size⟩
     ·show k.net.places≤kj.net.places+1
      omega
    clear HX hC6 hfr6 hqw
    go_region
    all_goals
     go_wp2_with fail
     go_roundg (n-(j+1))
     case measure=>omega
     case rel=>exact ⟨j+1,_,rfl,by omega,by go_num,HL.out⟩
   ·have t1:(K==1)=false:=by rw[hK];simp;omega
    have t2:(K==2)=false:=by rw[hK];simp;omega
    have HKI:Hid (x.kind≠1/\x.kind≠2):=⟨hk1,hk3⟩
    clear hr hr1 hr3 hC hfr hpl hxm kp hAg ho hS hK hF0 hp hPj hCV h64 hE1 hbV hkV hsV hx
    go_upto_region 4 with fail
    rw[<-hV,<-hq]
    clear hV hq hix c0 c1 c2
    clear hpl1
    go_upto_region 10 with (go_at_call 146;refine hkp1.mono ?_;rintro e W2 ⟨rfl,h1⟩;have hqx:=h1.out.2.2.2.heap HQ.out.1 HQ.out.2.1;have zx:=aA hqx 0 (u:=.int .i64 K) rfl)
    have HX:Hid (CM1 (E+j+1) ns (Up Pj V W2) W2 kb (bD (aQ kj F) p)/\bH Pj V W2):=by
     obtain ⟨⟨c,hc,hnv⟩,hF,hlt1,hfr1⟩:=h1.out
     have hpot:=HJ.out.2.2.2.2.1
     refine ⟨⟨⟨c,hc,by show c.nv+1≤(kj.net.first++[F]).length;rw[List.length_append];exact hnv⟩,hF,hlt1,?_⟩,hfr1⟩
     show (kj.net.first++[F]).length+ns.length≤kj.net.code.length+(E+j+1)
     rw[List.length_append];simp;omega
    clear hkp1 hqx zx h1
    have hqw:=HX.out.2.heap HQ.out.1 HQ.out.2.1
    have z1:=aA hqw 1 (u:=.string S) rfl
    have z2:=aA hqw 2 (u:=.int .i64 F) rfl
    obtain ⟨mv,w6,m7,hrun,hC6,hfr6⟩:=HX.out.1.put (s:=x.name) (v:=⟨p,-1,F⟩) HJ.out.2.2.2.2.2.2.2.2.2.2.2.1 HJ.out.2.2.2.2.2.2.2.2.2.2.2.2.1 HJ.out.2.2.2.2.2.2.2.2.2.2.2.2.2 (.string S) HJ.out.2.2.2.2.2.2.2.2.2.1
    have HL:Hid (Z=Em.dP (vs.drop (j+1)) (jL (bD (aQ kj F) p) x.name ⟨p,-1,F⟩)/\At (E+(j+1)) ns P kb w k w6 (jL (bD (aQ kj F) p) x.name ⟨p,-1,F⟩)/\(kj.net.first++[F]).length+ns.length≤kj.net.code.length+(E+(j+1))):=by
     obtain ⟨l1,l2,l3,l4,l5,l6,l7,l8,l9,l10,l11,_,_,_⟩:=HJ.out
     have hfrV:bH Pj V w6:=HX.out.2.up hfr6
     have s1:=HQ.out.2.2.2.2.size
     have s2:=hfrV.size
     have hfrW:bH P w w6:=(l3.trans (bH.of_below (P:=fun _=>False) HQ.out.2.2.2.2) fun _ _ h=>h.elim).trans hfrV (fun b hb hp=>by rw[l2] at hp;exact hp.elim id fun h=>absurd h.1 (by omega))
     refine ⟨?_,⟨hC6.mono (fun b hb=>?_) (fL HH.out.2.2.2 hfrW.size),hfrW,?_⟩,by rw[List.length_append];simp;omega⟩
     ·rw[l6,dR l7,r7 HKI.out.1 HKI.out.2,l9,l11]
     ·rcases hb with hb|hb
      ·rw[l2] at hb
       exact Up.size (by omega) b hb
      ·have s3:=l3.size
       exact .inr ⟨by omega,Nat.lt_of_lt_of_le hb.2 hfr6.size⟩
     ·show k.net.places≤kj.net.places+1
      omega
    clear HX hC6 hfr6 hqw
    go_region
    all_goals
     go_wp2_with fail
     go_roundg (n-(j+1))
     case measure=>omega
     case rel=>exact ⟨j+1,_,rfl,by omega,by go_num,HL.out⟩
  ·have HF:Hid (∃k',Em.dP vs k=some ((),k')/\At (E+n) ns P kb w k wr k'):=by
    have hjn:j=n:=by omega
    refine ⟨kj,?_,by rw[<-hjn];exact ⟨hC,hfr,hpl⟩⟩
    rw[<-HZ.out,hr1,List.drop_eq_nil_of_le (by rw[<-HV.out.2.2.2];omega)]
    rfl
   clear hr hr1 hr3 hC hfr hpl
   go_wp2_with fail
   go_end0
   exact ⟨rfl,HF⟩
end
end Ew
end
section
open Go.RowKit Px
namespace Ew
open Px.Em (Kd Vr eL eM jG Rg)
open Nx (Nt Sp)
theorem yE {α β γ:Type}{m:Em.M α}{f:α->Em.M β}{g:β->Em.M γ}{k:Kd}:((m >>= f) >>= g) k=(m >>= fun x=>f x >>= g) k:=by
 cases hm:m k with
 | none=>rw[aF hm,aF (aF hm)]
 | some p=>
  obtain ⟨a,k'⟩:=p
  rw[bind_some hm]
  cases hf:f a k' with
  | none=>rw[aF (show (m >>= f) k=none by rw[bind_some hm];exact hf),aF hf]
  | some q=>
   obtain ⟨b,k2⟩:=q
   rw[bind_some (show (m >>= f) k=some (b,k2) by rw[bind_some hm];exact hf),bind_some hf]
theorem oD {α β γ:Type}{m:Em.M α}{f:α->Em.M β}{g:β->Em.M γ}:((m >>= f) >>= g)=(m >>= fun x=>f x >>= g):=funext fun _=>yE
theorem kC {A A':Nat->Prop}{w w':World}(k:aX A A' w w') {b:Nat}{o:Obj}(ha:A b) (h:w.heap[b]?=some o):w'.heap[b]?=some o:=by rw[(k b ha (aB h)).2];exact h
def pN (A:Nat->Prop) (kb E:Nat) (ns:List bB) (d:Nat):Prop:=∀{P:Nat->Prop}{w:World}{k:Kd}{v:Value}{l:List (Rg d)}{so:Int},InM A w (eV A d w) v l->(∀r∈l,eN ns d r)->eG E ns P w kb k->Ro A P w->
 Calls Tryz.prog 240 #[.pointer (some ⟨kb,0,none⟩),v,.int .i64 so] w (eY E ns P kb w k (Em.dG (Em.aG d) l so k) (fun _=>.tuple #[]))
section
variable {P A:Nat->Prop}{w wr w2:World}{kb E d:Nat}{ns:List bB}{k kj k2:Kd}
theorem X3:pN A kb E ns 0:=by
 intro P w k v l so hv _ h _
 obtain ⟨ad,g,cap,rfl,h1,h2,h3⟩:=hv
 have hl:l=[]:=by
  cases l with
  | nil=>rfl
  | cons a r=>obtain ⟨_,_,h4⟩:=h3 0 a rfl;exact h4.elim
 subst hl
 have HF:Hid (eY E ns P kb w k (Em.dG (Em.aG 0) [] so k) (fun _=>.tuple #[]) (.returned (.tuple #[])) w):=At.ends (At.start h) (a:=()) (val:=fun _=>.tuple #[]) rfl
 have h0:([]:List (Rg 0)).length=0:=rfl
 rw[h0]
 clear h h1 h2 h3 h0
 go_enter Tryz.func240,Tryz.ntmps240
 go_wp2_with fail
 go_loopg [14] 0 (fun f i wr=>f=0/\i=.int .i64 0/\wr=w)
 case atStart=>exact ⟨rfl,rfl,rfl⟩
 case round=>
  obtain ⟨rfl,rfl,rfl⟩:=hrel
  go_wp2_with fail
  go_end0
  exact HF.out
theorem yR {g:jG (St d) (Rg d)}{l:List (Rg (d+1))}{so:Int}:Em.dG (Em.aG (d+1)) (g::l) so k=(Em.leave (Em.aG d) g so >>= fun _=>Em.dG (Em.aG (d+1)) l so) k:=rfl
theorem Ct {g:jG (St d) (Rg d)}{so:Int}(h:so=-1\/g.leaves=false):Em.leave (Em.aG d) g so k=some ((),k):=by unfold Em.leave;rw[if_pos h];rfl
theorem Ow {g:jG (St d) (Rg d)}{so:Int}(h:¬(so=-1\/g.leaves=false)):Em.leave (Em.aG d) g so k=(Em.given so g.there >>= fun here=>Em.iZ (Em.aG d) here g.states 0) k:=by unfold Em.leave;rw[if_neg h]
theorem Cu {here:Int}{s:eM (St d) (Rg d)}{l:List (eM (St d) (Rg d))}{i:Nat}(h:s.leaves=true):Em.iZ (Em.aG d) here (s::l) i k=(Em.is here i >>= fun gone=>Em.dG (Em.aG d) s.inside gone >>= fun _=>Em.uA gone s.drawn.leave >>= fun _=>Em.iZ (Em.aG d) here l (i+1)) k:=by rw[Em.iZ,if_pos h]
theorem Jf {here:Int}{s:eM (St d) (Rg d)}{l:List (eM (St d) (Rg d))}{i:Nat}(h:s.leaves=false):Em.iZ (Em.aG d) here (s::l) i k=Em.iZ (Em.aG d) here l (i+1) k:=by rw[Em.iZ,if_neg (by rw[h];simp)]
theorem eC {α β:Type}{m m':Em.M α}{f:α->Em.M β}{k k':Kd}(h:m k=m' k'):(m >>= f) k=(m' >>= f) k':=by
 show (m k).bind _=(m' k').bind _
 rw[h]
theorem X4 (hE:E<1000000) (ih:pN A kb E ns d):pN A kb E ns (d+1):=by
 intro P w k v l so hv hok h hR
 obtain ⟨ad,g,cap,rfl,hmx,hg,hin⟩:=hv
 obtain ⟨N,hN⟩:∃N,N=l.length:=⟨_,rfl⟩
 rw[<-hN] at hmx hg ⊢
 have HN:Hid (N=l.length):=hN
 have HG:Hid (0<N->ad=some ⟨g,0,none⟩/\A g):=hg
 have HIN:Hid (∀j r,l[j]?=some r->∃gr,w.cell? ⟨g,j,none⟩=some (.pointer (some ⟨gr,0,none⟩))/\Lh A w (eV A d w) r gr):=hin
 have HOK:Hid (∀r∈l,Lp ns (eN ns d) r):=hok
 have HC:Hid (eG E ns P w kb k/\Ro A P w/\pN A kb E ns d):=⟨h,hR,ih⟩
 have HP:Hid (∀b,P b->b<w.heap.size):=h.2.2
 obtain ⟨X,hX⟩:∃X,X=Em.dG (Em.aG (d+1)) l so k:=⟨_,rfl⟩
 have HX:Hid (X=Em.dG (Em.aG (d+1)) l so k):=hX
 rw[<-hX]
 have hN6:(N:Int)≤9223372036854775807:=by unfold maxLen at hmx;omega
 clear hok h hR ih hmx hg hin hN hX
 go_enter Tryz.func240,Tryz.ntmps240
 go_wp2_with fail
 go_loopg [14] N (fun f i wr=>∃(j:Nat) (kj:Kd),f=N-j/\j≤N/\i=.int .i64 (j:Int)/\Hid (X=Em.dG (Em.aG (d+1)) (l.drop j) so kj/\At E ns P kb w k wr kj))
 case atStart=>exact ⟨0,k,by omega,by omega,rfl,HX.out,At.start HC.out.1⟩
 case round=>
  obtain ⟨j,kj,rfl,hj,rfl,hr⟩:=hrel
  by_cases hlt:j<N
  ·obtain ⟨r,hs⟩:∃r:jG (St d) (Rg d),l[j]?=some r:=⟨l[j]'(by rw[<-HN.out];exact hlt),List.getElem?_eq_getElem _⟩
   obtain ⟨hr1,hr2⟩:=hr.out
   obtain ⟨gr,c0,hrg⟩:=HIN.out j r hs
   have kp:=hr2.keep HC.out.2.1
   have hix:=Vf ad g N cap j hlt (fun hp=>(HG.out hp).1)
   have c0:=cF kp (HG.out (by omega)).2 c0
   obtain ⟨gS,aS,cS,vo,hgr,hAg,hS,_,hst⟩:=hrg
   have hF:=HOK.out r (List.mem_of_getElem? hs)
   obtain ⟨M,hM⟩:∃M,M=r.states.length:=⟨_,rfl⟩
   rw[<-hM] at hgr hS
   obtain ⟨lv,hlv⟩:∃lv,lv=r.leaves:=⟨_,rfl⟩
   rw[<-hlv] at hgr
   have hgk:=kC kp hAg hgr
   have g5:=aA hgk 5 (u:=.bool lv) rfl
   have HN1:Hid (X=(Em.leave (Em.aG d) r so >>= fun _=>Em.dG (Em.aG (d+1)) (l.drop (j+1)) so) kj):=by rw[Hid,hr1,dR hs];exact yR
   by_cases hskip:so=-1\/lv=false
   ·have HN2:Hid (X=Em.dG (Em.aG (d+1)) (l.drop (j+1)) so kj/\At E ns P kb w k wr kj):=⟨HN1.out.trans (bind_some (Ct (by rw[<-hlv];exact hskip))),hr2⟩
    clear hr hr1 hr2 kp hgk hgr hAg hS hst hF hM hlv HN1 hs
    by_cases hso:so=-1
    ·have t:(so == -1)=true:=by simpa using hso
     clear hskip hso
     go_wp2_with fail
     go_roundg (N-(j+1))
     case measure=>omega
     case rel=>exact ⟨j+1,kj,rfl,by omega,by go_num,HN2.out⟩
    ·have t:(so == -1)=false:=by simpa using hso
     obtain rfl:lv=false:=by rcases hskip with h|h;exact absurd h hso;exact h
     clear hskip hso
     go_wp2_with fail
     go_roundg (N-(j+1))
     case measure=>omega
     case rel=>exact ⟨j+1,kj,rfl,by omega,by go_num,HN2.out⟩
   ·have t:(so == -1)=false:=by rw[beq_eq_false_iff_ne];exact fun e=>hskip (.inl e)
    obtain rfl:lv=true:=by cases lv;exact absurd (.inr rfl) hskip;rfl
    have g3:=aA hgk 3 (u:=.int .i64 r.there) rfl
    have a0:Hid (At E ns P kb w k wr kj):=hr2
    have e0:Hid (X=(Em.given so r.there >>= fun here=>Em.iZ (Em.aG d) here r.states 0 >>= fun _=>Em.dG (Em.aG (d+1)) (l.drop (j+1)) so) kj):=HN1.out.trans ((eC (Ow (g:=r) (by rw[<-hlv];simpa using hskip))).trans yE)
    have hgiven:=tW so r.there hr2.1 hE
    have HM:Hid (M=r.states.length/\M≤1000000/\Lp ns (eN ns d) r):=⟨hM,by rw[hM];exact hF.n,hF⟩
    have hM6:(M:Int)≤1000000:=by have:=hF.n;omega
    have HRG:Hid (w.heap[gr]?=some (.cells #[.slice aS M cS,vo,.int .i64 r.first,.int .i64 r.there,.bool r.idle,.bool true] 223 (0,0))/\A gr/\(0<M->aS=some ⟨gS,0,none⟩/\A gS)/\∀i s,r.states[i]?=some s->∃gd od,uG A w (eV A d w) gS (i*5) s gd od):=⟨hgr,hAg,hS,hst⟩
    clear hr hr1 hr2 kp hgk hgr hAg hS hst hF hM hlv HN1 hs hskip
    go_upto_region 5 with (go_at_call 237;refine hgiven.mono ?_;rintro e w1 (⟨rfl,h0,h1⟩|⟨x1,k1,rfl,h0,h1⟩);(· exact ⟨rfl,At.ran HP.out a0.out e0.out (.inl ⟨rfl,aF h0.out,h1⟩)⟩);have a1:Hid (At E ns P kb w k w1 k1):=a0.out.step HP.out h1.out;have e1:Hid _:=e0.out.trans (bind_some h0.out);clear h0 h1 hgiven)
    clear g3 g5 c0 hix
    have hg1:=kC (a1.out.keep HC.out.2.1) HRG.out.2.1 HRG.out.1
    have g0:=aA hg1 0 (u:=.slice aS M cS) rfl
    clear hg1 a0 e0
    go_wp2_with fail
    clear g0
    go_loopg [39] M (fun f i wm=>∃(m:Nat) (km:Kd),f=M-m/\m≤M/\i=.int .i64 (m:Int)/\Hid (X=(Em.iZ (Em.aG d) x1 (r.states.drop m) m >>= fun _=>Em.dG (Em.aG (d+1)) (l.drop (j+1)) so) km/\At E ns P kb w k wm km))
    case atStart=>exact ⟨0,k1,by omega,by omega,rfl,e1.out,a1.out⟩
    case round=>
     obtain ⟨m,km,rfl,hm,rfl,hr⟩:=hrel
     obtain ⟨hr1,hr2⟩:=hr.out
     by_cases hltm:m<M
     ·obtain ⟨s,hs⟩:∃s:eM (St d) (Rg d),r.states[m]?=some s:=⟨r.states[m]'(by rw[<-HM.out.1];exact hltm),List.getElem?_eq_getElem _⟩
      obtain ⟨gd,od,hse0⟩:=HRG.out.2.2.2 m s hs
      have kp:=hr2.keep HC.out.2.1
      have hse:=hse0.carry kp (eV.carry d kp)
      have hix:=Pg aS gS M cS m hltm (fun hp=>(HRG.out.2.2.1 hp).1)
      have hgk:=kC kp HRG.out.2.1 HRG.out.1
      have g0:=aA hgk 0 (u:=.slice aS M cS) rfl
      have hSK:=HM.out.2.2.st s (List.mem_of_getElem? hs)
      obtain ⟨o,ho⟩:∃o,o=m*5:=⟨_,rfl⟩
      rw[<-ho] at hse hix
      obtain ⟨lv,hlv⟩:∃lv,lv=s.leaves:=⟨_,rfl⟩
      have q4:=hse.leaves
      rw[<-hlv] at q4
      cases lv with
      | false=>
       have HN2:Hid (X=(Em.iZ (Em.aG d) x1 (r.states.drop (m+1)) (m+1) >>= fun _=>Em.dG (Em.aG (d+1)) (l.drop (j+1)) so) km/\At E ns P kb w k wr km):=⟨hr1.trans (eC (m':=Em.iZ (Em.aG d) x1 (r.states.drop (m+1)) (m+1)) (by rw[dR hs];exact Jf hlv.symm)),hr2⟩
       clear hr hr1 hr2 hse0 hse kp hgk hSK ho hlv hs
       go_wp2_with fail
       go_roundg (M-(m+1))
       case measure=>omega
       case rel=>exact ⟨m+1,km,rfl,by omega,by go_num,HN2.out⟩
      | true=>
       have his:=G1 x1 m (by omega) hr2.1 hE
       have a1:Hid (At E ns P kb w k wr km):=hr2
       have e1:Hid (X=(Em.is x1 m >>= fun gone=>Em.dG (Em.aG d) s.inside gone >>= fun _=>Em.uA gone s.drawn.leave >>= fun _=>Em.iZ (Em.aG d) x1 (r.states.drop (m+1)) (m+1) >>= fun _=>Em.dG (Em.aG (d+1)) (l.drop (j+1)) so) km):=by
        have hy:=Cu (k:=km) (here:=x1) (l:=r.states.drop (m+1)) (i:=m) hlv.symm
        rw[<-dR hs] at hy
        refine hr1.trans ((eC hy).trans ?_)
        simp only[oD]
       have HSE:Hid (uG A w (eV A d w) gS o s gd od/\zA ns r.states.length (eN ns d) s):=⟨by rw[ho];exact hse0,hSK⟩
       have q0:=hse.d
       clear hr hr1 hr2 hse0 hse kp hgk hSK ho hlv hs
       go_upto_region 11 with (go_at_call 204;refine his.mono ?_;rintro e w2 (⟨rfl,h0,h1⟩|⟨x2,k2,rfl,h0,h1⟩);(· exact ⟨rfl,At.ran HP.out a1.out e1.out (.inl ⟨rfl,aF h0.out,h1⟩)⟩);have a2:Hid (At E ns P kb w k w2 k2):=a1.out.step HP.out h1.out;have e2:Hid _:=e1.out.trans (bind_some h0.out);clear h0 h1 his)
       have kp:=a2.out.keep HC.out.2.1
       have hse:=HSE.out.1.carry kp (eV.carry d kp)
       obtain ⟨vi,q2,hvi⟩:=hse.iy
       have hlv2:=HC.out.2.2 (so:=x2) hvi HSE.out.2.sub a2.out.1 (a2.out.ro HC.out.2.1)
       obtain ⟨ai,gi,ci,rfl,_⟩:=hvi
       clear hse kp g0 q4 q0 hix a1 e1
       go_upto_region 12 with (go_at_call 240;refine hlv2.mono ?_;rintro e w3 (⟨rfl,h0,h1⟩|⟨_,k3,rfl,h0,h1⟩);(· exact ⟨rfl,At.ran HP.out a2.out e2.out (.inl ⟨rfl,aF h0.out,h1⟩)⟩);have a3:Hid (At E ns P kb w k w3 k3):=a2.out.step HP.out h1.out;have e3:Hid _:=e2.out.trans (bind_some h0.out);clear h0 h1 hlv2)
       have kp:=a3.out.keep HC.out.2.1
       have hse:=HSE.out.1.carry kp (eV.carry d kp)
       obtain ⟨vl,q5,hvl⟩:=hse.le
       have hdo:=tZ (so:=x2) HSE.out.2.le hvl a3.out.1 (a3.out.ro HC.out.2.1) hE
       have q0:=hse.d
       obtain ⟨va,vn,vc,rfl⟩:=hvl.sl'
       clear hse kp q2 a2 e2 hvl
       go_wp2_with (go_at_call 236;refine hdo.mono ?_;rintro e w4 (⟨rfl,h0,h1⟩|⟨_,k4,rfl,h0,h1⟩);(· exact ⟨rfl,At.ran HP.out a3.out e3.out (.inl ⟨rfl,aF h0.out,h1⟩)⟩);have a4:Hid (At E ns P kb w k w4 k4):=a3.out.step HP.out h1.out;have e4:Hid _:=e3.out.trans (bind_some h0.out);clear h0 h1 hdo)
       go_roundg (M-(m+1))
       case measure=>omega
       case rel=>exact ⟨m+1,k4,rfl,by omega,by go_num,e4.out,a4.out⟩
     ·obtain rfl:m=M:=by omega
      have HN2:Hid (X=Em.dG (Em.aG (d+1)) (l.drop (j+1)) so km/\At E ns P kb w k wr km):=⟨hr1.trans (bind_some (by rw[HM.out.1,List.drop_length];rfl)),hr2⟩
      clear hr hr1 hr2
      go_wp2_with fail
      go_roundg (N-(j+1))
      case measure=>omega
      case rel=>exact ⟨j+1,km,rfl,by omega,by go_num,HN2.out⟩
  ·obtain rfl:j=N:=by omega
   obtain ⟨hr1,hr2⟩:=hr.out
   have HF:Hid (eY E ns P kb w k X (fun _=>.tuple #[]) (.returned (.tuple #[])) wr):=At.ends hr2 (a:=()) (val:=fun _=>.tuple #[]) (by rw[hr1,HN.out,List.drop_length];rfl)
   clear hr hr1 hr2
   go_wp2_with fail
   go_end0
   exact HF.out
theorem rF (hE:E<1000000):∀d,pN A kb E ns d
 | 0=>X3
 | d+1=>X4 hE (rF hE d)
end
end Ew
end
end Go.Proofs.YtcdbhoknhnimcaaGreatDoor
