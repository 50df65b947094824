import Derived.Test.YtcdbhoknhnimcaaGreatDoorTEzf0
import Derived.Test.YtcdbhoknhnimcaaGreatDoorTNf
import Derived.Test.YtcdbhoknhnimcaaGreatDoorTPcatch
set_option maxRecDepth 100000
set_option maxHeartbeats 16000000
namespace Go.Proofs.YtcdbhoknhnimcaaGreatDoor
section
open Go.RowKit Px
namespace Ew
open Px.Em (Kd Vr eL eM jG Rg cR)
open Nx (Nt Sp)
structure uY (n:Nt):Prop where
 len:n.places=n.first.length
 few:n.first.length≤1004000
 code:n.code.length≤4000
 keeps:n.keeps.length≤n.first.length
 ins:n.ins.length≤n.first.length
 outs:n.outs.length≤n.first.length
 nums:n.nums.length≤n.code.length
 nf:∀x∈n.first,eF x
 nn:∀x∈n.nums,eF x
theorem qY.nt {E:Nat}{ns:List bB}{k:Kd}(h:qY E ns k):uY k.net:=⟨h.len,h.few,h.code,h.keeps,h.ins,h.outs,h.nums,h.nf,h.nn⟩
def aP3 (w:World) (o:Option Nt) (e:Ending) (w':World):Prop:=Below w.heap.size w w'/\((o=none/\e=.returned (.tuple #[.agg ZN,.iface 94 (.int .i64 4)]))\/∃(n:Nt) (vF vI vO vK vN vC:Value),o=some n/\e=.returned (.tuple #[.agg #[.int .i64 n.places,vF,vI,vO,vK,vN,vC],.nilIface])/\qL (fun b=>w.heap.size≤b/\b<w'.heap.size) w' n vF vI vO vK vN vC/\uY n)
theorem mkV (M:Int) (w:World):(Instr.makeMap 166 (some (.int .i64 M))).run Tryz.prog w=.ok (.map (some w.heap.size)) (w.alloc (.map #[] 0)):=by kernel_rfl
theorem mkN (w:World):(Instr.makeMap 59 none).run Tryz.prog w=.ok (.map (some w.heap.size)) (w.alloc (.map #[] 0)):=by kernel_rfl
theorem Az (w:World) (x0 x1 x2:Value):∃W0 W1,W0=((w.alloc (.cells #[x0,x1,x2] 52)).alloc (.cells ZN 26)).alloc (.cells #[.nilIface] 33)/\
    W1=((W0.alloc (.map #[] 0)).alloc (.map #[] 0)).alloc (.cells #[.int .i64 0,.slice none 0 0,.slice none 0 0,.slice none 0 0,.slice none 0 0,.slice none 0 0,.slice none 0 0,.map (some (w.heap.size+3)),.map (some (w.heap.size+4))] 168)/\
    Below w.heap.size w W0/\W0.heap.size=w.heap.size+3/\Below W0.heap.size W0 W1/\W1.heap.size=w.heap.size+6/\W0.heap[w.heap.size]?=some (.cells #[x0,x1,x2] 52 (0,0))/\W0.heap[w.heap.size+1]?=some (.cells ZN 26 (0,0))/\W0.heap[w.heap.size+2]?=some (.cells #[.nilIface] 33 (0,0))/\
    W1.heap[w.heap.size+5]?=some (.cells #[.int .i64 0,.slice none 0 0,.slice none 0 0,.slice none 0 0,.slice none 0 0,.slice none 0 0,.slice none 0 0,.map (some (w.heap.size+3)),.map (some (w.heap.size+4))] 168 (0,0))/\Gm.Mp Tryz.prog 9 W1 (w.heap.size+3) 0 (fun _=>none)/\Gm.Mp Tryz.prog 2 W1 (w.heap.size+4) 0 (fun _=>none):=by
 obtain ⟨U1,hU1⟩:∃U1,U1=w.alloc (.cells #[x0,x1,x2] 52):=⟨_,rfl⟩
 obtain ⟨U2,hU2⟩:∃U2,U2=U1.alloc (.cells ZN 26):=⟨_,rfl⟩
 obtain ⟨U3,hU3⟩:∃U3,U3=U2.alloc (.cells #[.nilIface] 33):=⟨_,rfl⟩
 obtain ⟨U4,hU4⟩:∃U4,U4=U3.alloc (.map #[] 0):=⟨_,rfl⟩
 obtain ⟨U5,hU5⟩:∃U5,U5=U4.alloc (.map #[] 0):=⟨_,rfl⟩
 obtain ⟨U6,hU6⟩:∃U6,U6=U5.alloc (.cells #[.int .i64 0,.slice none 0 0,.slice none 0 0,.slice none 0 0,.slice none 0 0,.slice none 0 0,.slice none 0 0,.map (some (w.heap.size+3)),.map (some (w.heap.size+4))] 168):=⟨_,rfl⟩
 have s1:U1.heap.size=w.heap.size+1:=by rw[hU1];simp
 have s2:U2.heap.size=w.heap.size+2:=by rw[hU2];simp[s1]
 have s3:U3.heap.size=w.heap.size+3:=by rw[hU3];simp[s2]
 have s4:U4.heap.size=w.heap.size+4:=by rw[hU4];simp[s3]
 have s5:U5.heap.size=w.heap.size+5:=by rw[hU5];simp[s4]
 have s6:U6.heap.size=w.heap.size+6:=by rw[hU6];simp[s5]
 have b1:Below w.heap.size w U1:=by rw[hU1];exact aC _ _
 have b2:Below U1.heap.size U1 U2:=by rw[hU2];exact aC _ _
 have b3:Below U2.heap.size U2 U3:=by rw[hU3];exact aC _ _
 have b4:Below U3.heap.size U3 U4:=by rw[hU4];exact aC _ _
 have b5:Below U4.heap.size U4 U5:=by rw[hU5];exact aC _ _
 have b6:Below U5.heap.size U5 U6:=by rw[hU6];exact aC _ _
 have n1:U1.heap[w.heap.size]?=some (.cells #[x0,x1,x2] 52 (0,0)):=by rw[hU1];exact bE w _
 have n2:U2.heap[w.heap.size+1]?=some (.cells ZN 26 (0,0)):=by rw[<-s1,hU2];exact bE U1 _
 have n3:U3.heap[w.heap.size+2]?=some (.cells #[.nilIface] 33 (0,0)):=by rw[<-s2,hU3];exact bE U2 _
 have n4:Gm.Mp Tryz.prog 9 U4 (w.heap.size+3) 0 (fun _=>none):=by rw[<-s3,hU4];exact Gm.Mp.made _ _ _
 have n5:Gm.Mp Tryz.prog 2 U5 (w.heap.size+4) 0 (fun _=>none):=by rw[<-s4,hU5];exact Gm.Mp.made _ _ _
 have n6:U6.heap[w.heap.size+5]?=some (.cells #[.int .i64 0,.slice none 0 0,.slice none 0 0,.slice none 0 0,.slice none 0 0,.slice none 0 0,.slice none 0 0,.map (some (w.heap.size+3)),.map (some (w.heap.size+4))] 168 (0,0)):=by rw[<-s5,hU6];exact bE U5 _
 refine ⟨U3,U6,by rw[hU3,hU2,hU1],by rw[hU6,hU5,hU4],aN (aN b1 b2) b3,s3,aN (aN b4 b5) b6,s6,aH b3 (aH b2 n1),aH b3 n2,n3,n6,n4.keep ((b6.block _ (by omega)).trans (b5.block _ (by omega))),n5.keep (b6.block _ (by omega))⟩
section
variable {A:Nat->Prop}{w:World}
theorem Gv {c:fU}{S:ByteArray}{a a':Option Addr}{n m n' m':Nat}(hC:gJ A w c (.agg #[.string S,.slice a n m,.slice a' n' m'])) (hA:∀x,A x->x<w.heap.size) (hem:EmC c) :
    Calls Tryz.prog 54 #[.agg #[.string S,.slice a n m,.slice a' n' m']] w (aP3 w (Em.sV c)):=by
 obtain ⟨k1,h1⟩:=lK c.vars Em.kd0
 have hmf:∀(fn:Fn) (first cap:Array Value) (w:World),(Instr.makeFunc fn first cap).run Tryz.prog w=.ok (.func fn first cap) w:=fun _ _ _ _=>rfl
 have hmv:=mkV
 have hmn:=mkN
 obtain ⟨a0,n0,m0,a0',n0',m0',e0,hv,hg⟩:=hC
 have q2:Value.slice a n m=.slice a0 n0 m0:=by injection e0 with e0;injection e0 with e0;injection e0 with _ e0;injection e0
 have q3:Value.slice a' n' m'=.slice a0' n0' m0':=by injection e0 with e0;injection e0 with e0;injection e0 with _ e0;injection e0 with _ e0;injection e0
 rw[<-q2] at hv
 rw[<-q3] at hg
 obtain ⟨nl,hnl⟩:∃nl,nl=c.vars.length:=⟨_,rfl⟩
 have hfew:=hem.few
 have hvl:c.vars.length≤100000:=by omega
 have hrl:c.regions.length≤100000:=by have:=wJ (f:=hJ 6) (l:=c.regions) (fun r _=>by show 1≤1+_;omega);omega
 have hns:∀x∈c.vars,x.name∈cD c.vars:=fun x hx=>List.mem_map_of_mem hx
 have hnl2:(cD c.vars).length=nl:=by rw[hnl];simp[cD]
 obtain ⟨W0,W1,hW0,hW1,hb0,hs0,hb1,hs1,x0,x1,x2,y5,y3,y4⟩:=Az w (.string S) (.slice a n m) (.slice a' n' m')
 have hCM:=Zf (n:=nl) hnl2 (by omega) (by omega) (by omega) y5 y3 y4
 have kp0:aX A A w W1:=fun x hx hl=>⟨hx,(aN hb0 hb1).block x hl⟩
 obtain ⟨P0,hP0⟩:∃P0:Nat->Prop,P0=fun b=>b=w.heap.size+3\/b=w.heap.size+4\/b=w.heap.size+5:=⟨_,rfl⟩
 rw[<-hP0] at hCM
 have hR0:Ro A P0 W1:=fun x hx=>⟨by have:=hA x hx;omega,fun hp=>by rw[hP0] at hp;have:=hA x hx;omega⟩
 have hPl:∀b,P0 b->w.heap.size+3≤b:=fun b hb=>by rw[hP0] at hb;omega
 have hdec:=q9 (hv.carry kp0) hem.run.run.vn hem.run.n64 hns hvl (by omega) hCM (by show 0+(cD c.vars).length≤0+nl;omega) hR0
 have c1:W0.cell? ⟨w.heap.size,1,none⟩=some (.slice a n m):=aA x0 1 rfl
 have u1:=(aH hb1 x1)
 have u2:=(aH hb1 x2)
 have u0:=(aH hb1 x0)
 have d1:W1.cell? ⟨w.heap.size,1,none⟩=some (.slice a n m):=aA u0 1 rfl
 have HC:Hid (EmC c/\lY A w c.vars (.slice a n m)/\gI A w (aL A w 6) c.regions (.slice a' n' m')/\Ro A P0 W1/\(∀b,P0 b->w.heap.size+3≤b)/\aX A A w W1/\nl+nl+1+(c.regions.map (hJ 6)).sum<1000000/\c.vars.length≤100000/\c.regions.length≤100000/\nl=c.vars.length/\eG nl (cD c.vars) P0 W1 (w.heap.size+5) Em.kd0):=⟨hem,hv,hg,hR0,hPl,kp0,by omega,hvl,hrl,hnl,hCM⟩
 have HB:Hid (Below w.heap.size w W1/\W1.heap.size=w.heap.size+6/\W1.heap[w.heap.size]?=some (.cells #[.string S,.slice a n m,.slice a' n' m'] 52 (0,0))/\W1.heap[w.heap.size+1]?=some (.cells ZN 26 (0,0))/\W1.heap[w.heap.size+2]?=some (.cells #[.nilIface] 33 (0,0))/\¬P0 w.heap.size/\¬P0 (w.heap.size+1)/\¬P0 (w.heap.size+2)):=⟨aN hb0 hb1,hs1,u0,u1,u2,by rw[hP0];omega,by rw[hP0];omega,by rw[hP0];omega⟩
 have H1:Hid (Em.dP c.vars Em.kd0=some ((),k1)):=h1
 clear hem hfew hvl hrl hns hnl hnl2 hv hg hR0 hPl kp0 hCM hP0 hA h1 e0 q2 q3 u0 u1 u2 x1 x2 y3 y4 y5 x0
 go_enter_defers Tryz.func54,Tryz.ntmps54
 go_upto_region 2 with fail
 rw[show ((w.alloc (.cells #[.string S,.slice a n m,.slice a' n' m'] 52)).alloc (.cells #[.int .i64 0,.slice none 0 0,.slice none 0 0,.slice none 0 0,.slice none 0 0,.slice none 0 0,.slice none 0 0] 26)).alloc (.cells #[.nilIface] 33)=W0 from hW0.symm]
 rw[show w.heap.size+1+1=w.heap.size+2 from rfl]
 clear hW0 hb0
 go_upto_region 3 with fail
 rw[show w.heap.size+3+1=w.heap.size+4 from rfl,show w.heap.size+4+1=w.heap.size+5 from rfl]
 rw[show (((W0.alloc (.map #[] 0)).alloc (.map #[] 0)).alloc (.cells #[.int .i64 0,.slice none 0 0,.slice none 0 0,.slice none 0 0,.slice none 0 0,.slice none 0 0,.slice none 0 0,.map (some (w.heap.size+3)),.map (some (w.heap.size+4))] 168))=W1 from hW1.symm]
 clear hW1 hb1 hs0 hs1 c1
 go_upto_region 4 with (go_at_call 95;refine hdec.mono ?_;rintro e w2 ⟨rfl,h2⟩)
 obtain ⟨kx,hkx,A2⟩:=h2.out
 obtain rfl:kx=k1:=by have:=H1.out;rw[hkx] at this;injection this with this;injection this
 have u0:=A2.2.1.heap HB.out.2.2.1 HB.out.2.2.2.2.2.1
 have d2:w2.cell? ⟨w.heap.size,2,none⟩=some (.slice a' n' m'):=aA u0 2 rfl
 have kp2:aX A A w w2:=HC.out.2.2.2.2.2.1.trans (A2.keep HC.out.2.2.2.1) HB.out.1.size
 have htick:=wF (HC.out.2.2.1.carry kp2 (aL.carry kp2 6)) (fun l hl=>⟨HC.out.1.lay l hl,HC.out.1.run.run.st l hl,HC.out.1.tm l hl⟩) (by rw[<-HC.out.2.2.2.2.2.2.2.2.2.1];exact HC.out.2.2.2.2.2.2.1) HC.out.2.2.2.2.2.2.2.2.1 A2.1 (A2.ro HC.out.2.2.2.1)
 have HA2:Hid (At (nl+c.vars.length) (cD c.vars) P0 (w.heap.size+5) W1 Em.kd0 w2 kx):=A2
 have HP:Hid (∀b,P0 b->b<W1.heap.size):=HC.out.2.2.2.2.2.2.2.2.2.2.2.2
 clear hdec h2 hkx A2 u0 kp2 d1
 cases h2:Em.tick c.regions kx with
 | none=>
  have H2:Hid (Em.tick c.regions kx=none):=h2
  clear h2
  have ht:Calls Tryz.prog 96 #[.pointer (some ⟨w.heap.size+5,0,none⟩),.slice a' n' m'] w2 fun e w'=>e=Sv/\Hid (bH (Up P0 W1 w2) w2 w'):=htick.mono fun e w' h=>by
   rcases h with ⟨rfl,_,h⟩|⟨_,_,_,h,_⟩
   ·exact ⟨rfl,h⟩
   ·rw[Hid,H2.out] at h;exact absurd h (by simp)
  clear htick
  go_wp2_with (go_at_call 96;refine ht.mono ?_;rintro e w3 ⟨rfl,h3⟩)
  have HF:Hid (bH P0 W1 w3):=HA2.out.2.1.up h3.out
  have u1:=HF.out.heap HB.out.2.2.2.1 HB.out.2.2.2.2.2.2.1
  have u2:=HF.out.heap HB.out.2.2.2.2.1 HB.out.2.2.2.2.2.2.2
  have hB3:Below w.heap.size w w3:=HB.out.1.trans (HF.out.below (by have:=HB.out.2.1;omega) fun b hb=>by have:=HC.out.2.2.2.2.1 b hb;omega)
  refine leaves_cons (f:=94) (args:=#[.pointer (some ⟨w.heap.size+1,0,none⟩),.pointer (some ⟨w.heap.size+2,0,none⟩)]) (by simp) (by simp[go_sem]) ?_
  refine (qM (w.heap.size+1) (w.heap.size+2) w3 [] (aA u1 0 rfl) (fun o h1 h6=>by
   obtain rfl|rfl|rfl|rfl|rfl|rfl:o=1\/o=2\/o=3\/o=4\/o=5\/o=6:=by omega
   all_goals exact aA u1 _ rfl) (fun o=>aE u1 o) (aA u2 0 rfl) (aE u2 0) (by omega)).mono ?_
  rintro e u' w'' ⟨rfl,rfl,hw⟩
  obtain ⟨z0,z1,z2,z3⟩:=Yb u1 u2 (by omega) hw
  exact ⟨_,wV _ _ _ _ _ _ rfl rfl rfl z0 z1,z3 _ _ hB3 (by omega) (by omega),.inl ⟨by rw[sT H1.out,aF H2.out];rfl,rfl⟩⟩
 | some x=>
  obtain ⟨⟨⟩,k2⟩:=x
  have H2:Hid (Em.tick c.regions kx=some ((),k2)):=h2
  clear h2
  have ht:Calls Tryz.prog 96 #[.pointer (some ⟨w.heap.size+5,0,none⟩),.slice a' n' m'] w2 fun e w'=>e=.returned (.tuple #[])/\Hid (At (nl+c.vars.length+1+(c.regions.map (hJ 6)).sum) (cD c.vars) (Up P0 W1 w2) (w.heap.size+5) w2 kx w' k2):=htick.mono fun e w' h=>by
   rcases h with ⟨_,h,_⟩|⟨_,_,rfl,h,h'⟩
   ·rw[Hid,H2.out] at h;exact absurd h (by simp)
   ·rw[Hid,H2.out] at h
    injection h with h
    injection h with _ h
    subst h
    exact ⟨rfl,h'⟩
  clear htick
  go_upto_region 5 with (go_at_call 96;refine ht.mono ?_;rintro e w3 ⟨rfl,h3⟩)
  have f3:bH P0 W1 w3:=HA2.out.2.1.up h3.out.2.1
  have u0:=f3.heap HB.out.2.2.1 HB.out.2.2.2.2.2.1
  have d3:w3.cell? ⟨w.heap.size,1,none⟩=some (.slice a n m):=aA u0 1 rfl
  have kp3:aX A A w w3:=HC.out.2.2.2.2.2.1.trans (HC.out.2.2.2.1.keep f3) HB.out.1.size
  have hro:=h3.out.ro (HA2.out.ro HC.out.2.2.2.1)
  have hrem:=D9 (HC.out.2.1.carry kp3) HC.out.1.run.run.vn HC.out.2.2.2.2.2.2.2.1 h3.out.1 hro
  have HF3:Hid (bH P0 W1 w3/\At (nl+c.vars.length+1+(c.regions.map (hJ 6)).sum) (cD c.vars) (Up P0 W1 w2) (w.heap.size+5) w2 kx w3 k2):=⟨f3,h3.out⟩
  clear ht h3 f3 u0 kp3 hro d2
  cases h3:Em.dN c.vars k2 with
  | none=>
   have H3:Hid (Em.dN c.vars k2=none):=h3
   clear h3
   have ht:Calls Tryz.prog 97 #[.pointer (some ⟨w.heap.size+5,0,none⟩),.slice a n m] w3 fun e w'=>e=Sv/\Hid (bH (Up (Up P0 W1 w2) w2 w3) w3 w'):=hrem.mono fun e w' h=>by
    rcases h with ⟨rfl,_,h⟩|⟨_,_,_,h,_⟩
    ·exact ⟨rfl,h⟩
    ·rw[Hid,H3.out] at h;exact absurd h (by simp)
   clear hrem
   go_wp2_with (go_at_call 97;refine ht.mono ?_;rintro e w4 ⟨rfl,h4⟩)
   have HF:Hid (bH P0 W1 w4):=HA2.out.2.1.up (HF3.out.2.2.1.up h4.out)
   have u1:=HF.out.heap HB.out.2.2.2.1 HB.out.2.2.2.2.2.2.1
   have u2:=HF.out.heap HB.out.2.2.2.2.1 HB.out.2.2.2.2.2.2.2
   have hB3:Below w.heap.size w w4:=HB.out.1.trans (HF.out.below (by have:=HB.out.2.1;omega) fun b hb=>by have:=HC.out.2.2.2.2.1 b hb;omega)
   refine leaves_cons (f:=94) (args:=#[.pointer (some ⟨w.heap.size+1,0,none⟩),.pointer (some ⟨w.heap.size+2,0,none⟩)]) (by simp) (by simp[go_sem]) ?_
   refine (qM (w.heap.size+1) (w.heap.size+2) w4 [] (aA u1 0 rfl) (fun o h1 h6=>by
    obtain rfl|rfl|rfl|rfl|rfl|rfl:o=1\/o=2\/o=3\/o=4\/o=5\/o=6:=by omega
    all_goals exact aA u1 _ rfl) (fun o=>aE u1 o) (aA u2 0 rfl) (aE u2 0) (by omega)).mono ?_
   rintro e u' w'' ⟨rfl,rfl,hw⟩
   obtain ⟨z0,z1,z2,z3⟩:=Yb u1 u2 (by omega) hw
   exact ⟨_,wV _ _ _ _ _ _ rfl rfl rfl z0 z1,z3 _ _ hB3 (by omega) (by omega),.inl ⟨by rw[sT H1.out,bind_some H2.out,H3.out];rfl,rfl⟩⟩
  | some y=>
   obtain ⟨⟨⟩,k3⟩:=y
   have H3:Hid (Em.dN c.vars k2=some ((),k3)):=h3
   clear h3
   have ht:Calls Tryz.prog 97 #[.pointer (some ⟨w.heap.size+5,0,none⟩),.slice a n m] w3 fun e w'=>e=.returned (.tuple #[])/\Hid (At (nl+c.vars.length+1+(c.regions.map (hJ 6)).sum) (cD c.vars) (Up (Up P0 W1 w2) w2 w3) (w.heap.size+5) w3 k2 w' k3):=hrem.mono fun e w' h=>by
    rcases h with ⟨_,h,_⟩|⟨_,_,rfl,h,h'⟩
    ·rw[Hid,H3.out] at h;exact absurd h (by simp)
    ·rw[Hid,H3.out] at h
     injection h with h
     injection h with _ h
     subst h
     exact ⟨rfl,h'⟩
   clear hrem
   go_upto_region 6 with (go_at_call 97;refine ht.mono ?_;rintro e w4 ⟨rfl,h4⟩)
   have f4:bH P0 W1 w4:=HA2.out.2.1.up (HF3.out.2.2.1.up h4.out.2.1)
   have u1:=f4.heap HB.out.2.2.2.1 HB.out.2.2.2.2.2.2.1
   have u2:=f4.heap HB.out.2.2.2.2.1 HB.out.2.2.2.2.2.2.2
   have hB4:Below w.heap.size w w4:=HB.out.1.trans (f4.below (by have:=HB.out.2.1;omega) fun b hb=>by have:=HC.out.2.2.2.2.1 b hb;omega)
   obtain ⟨⟨cv,hc⟩,hF,hlt⟩:=h4.out.1
   have HV:Hid (CM (Up (Up (Up P0 W1 w2) w2 w3) w3 w4) w4 (w.heap.size+5) k3 cv/\uY k3.net/\(∀g,Up (Up (Up P0 W1 w2) w2 w3) w3 w4 g->g≠w.heap.size+1/\g≠w.heap.size+2/\w.heap.size≤g/\g<w4.heap.size)):=⟨hc,hF.nt,fun g hg=>by
    have s4:=hlt g hg
    have s5:=hB4.size
    have s6:=HF3.out.1.size
    have s1:=HB.out.2.1;have s2:=HA2.out.2.1.size;have s3:=HF3.out.2.2.1.size
    rcases hg with ((h|h)|h)|h
    ·exact ⟨fun e=>HB.out.2.2.2.2.2.2.1 (e▸h),fun e=>HB.out.2.2.2.2.2.2.2 (e▸h),by have:=HC.out.2.2.2.2.1 g h;omega,s4⟩
    all_goals exact ⟨by omega,by omega,by omega,s4⟩⟩
   have g0:=hc.cell 0 (u:=.int .i64 k3.net.places) rfl
   have g1:=hc.cell 1 (u:=cv.v 1) rfl
   have g2:=hc.cell 2 (u:=cv.v 2) rfl
   have g3:=hc.cell 3 (u:=cv.v 3) rfl
   have g4:=hc.cell 4 (u:=cv.v 4) rfl
   have g5:=hc.cell 5 (u:=cv.v 5) rfl
   have g6:=hc.cell 6 (u:=cv.v 6) rfl
   obtain ⟨p3,hp3⟩:∃p3,p3=k3.net.places:=⟨_,rfl⟩
   rw[<-hp3] at g0
   obtain ⟨r0,r1,r2,r3,r4,r5,r6⟩:=gC u1
   have rf:∀o,w4.frozen? ⟨w.heap.size+1,o,none⟩=false:=fun o=>aE u1 o
   have re:=aA u2 0 (u:=.nilIface) rfl
   have ref:=aE u2 0
   have HU:Hid (w4.heap[w.heap.size+1]?=some (.cells ZN 26 (0,0))/\w4.heap[w.heap.size+2]?=some (.cells #[.nilIface] 33 (0,0))/\Below w.heap.size w w4/\p3=k3.net.places):=⟨u1,u2,hB4,hp3⟩
   obtain ⟨e1,l1,o1,hv1⟩:∃e l o,cv.v 1=.slice e l o:=by obtain ⟨e,o,h⟩:=aJ (hc.row 1 (by omega) (by omega));exact ⟨e,_,o,h⟩
   obtain ⟨e2,l2,o2,hv2⟩:∃e l o,cv.v 2=.slice e l o:=by obtain ⟨e,o,h⟩:=aJ (hc.row 2 (by omega) (by omega));exact ⟨e,_,o,h⟩
   obtain ⟨e3,l3,o3,hv3⟩:∃e l o,cv.v 3=.slice e l o:=by obtain ⟨e,o,h⟩:=aJ (hc.row 3 (by omega) (by omega));exact ⟨e,_,o,h⟩
   obtain ⟨e4,l4,o4,hv4⟩:∃e l o,cv.v 4=.slice e l o:=by obtain ⟨e,o,h⟩:=aJ (hc.row 4 (by omega) (by omega));exact ⟨e,_,o,h⟩
   obtain ⟨e5,l5,o5,hv5⟩:∃e l o,cv.v 5=.slice e l o:=by obtain ⟨e,o,h⟩:=aJ (hc.row 5 (by omega) (by omega));exact ⟨e,_,o,h⟩
   obtain ⟨e6,l6,o6,hv6⟩:∃e l o,cv.v 6=.slice e l o:=by obtain ⟨e,o,h⟩:=aJ (hc.row 6 (by omega) (by omega));exact ⟨e,_,o,h⟩
   have HVV:Hid (cv.v 1=.slice e1 l1 o1/\cv.v 2=.slice e2 l2 o2/\cv.v 3=.slice e3 l3 o3/\cv.v 4=.slice e4 l4 o4/\cv.v 5=.slice e5 l5 o5/\cv.v 6=.slice e6 l6 o6):=⟨hv1,hv2,hv3,hv4,hv5,hv6⟩
   rw[hv1] at g1
   rw[hv2] at g2
   rw[hv3] at g3
   rw[hv4] at g4
   rw[hv5] at g5
   rw[hv6] at g6
   clear ht h4 f4 u1 u2 hB4 hc hF hlt hp3 hv1 hv2 hv3 hv4 hv5 hv6 d3
   go_wp2_with fail
   obtain ⟨W5,hW5⟩:∃W5,W5=(((((((w4.setCell ⟨w.heap.size+1,0,none⟩ (.int .i64 p3)).setCell ⟨w.heap.size+1,1,none⟩ (.slice e1 l1 o1)).setCell ⟨w.heap.size+1,2,none⟩ (.slice e2 l2 o2)).setCell ⟨w.heap.size+1,3,none⟩ (.slice e3 l3 o3)).setCell ⟨w.heap.size+1,4,none⟩ (.slice e4 l4 o4)).setCell ⟨w.heap.size+1,5,none⟩ (.slice e5 l5 o5)).setCell ⟨w.heap.size+1,6,none⟩ (.slice e6 l6 o6)).setCell ⟨w.heap.size+2,0,none⟩ .nilIface:=⟨_,rfl⟩
   rw[<-hW5]
   obtain ⟨z0,z1,z2,z3⟩:=Yb (v:=.nilIface) HU.out.1 HU.out.2.1 (by omega) hW5
   have zS:W5.heap.size=w4.heap.size:=by rw[hW5];simp only[World.setCell,Array.size_modify]
   clear hW5
   have hN:=(HV.out.1.carry (Q:=fun b=>w.heap.size≤b/\b<W5.heap.size) (w':=W5) fun b hb hl=>⟨⟨(HV.out.2.2 b hb).2.2.1,by have:=(HV.out.2.2 b hb).2.2.2;rw[zS];exact this⟩,z2 b (HV.out.2.2 b hb).1 (HV.out.2.2 b hb).2.1⟩).netA
   obtain ⟨q1,q2,q3,q4,q5,q6⟩:=HVV.out
   rw[q1,q2,q3,q4,q5,q6] at hN
   refine leaves_cons (f:=94) (args:=#[.pointer (some ⟨w.heap.size+1,0,none⟩),.pointer (some ⟨w.heap.size+2,0,none⟩)]) (by simp) (by simp[go_sem]) ?_
   refine (O3 ⟨w.heap.size+1,0,none⟩ ⟨w.heap.size+2,0,none⟩ _).mono ?_
   rintro e u' w'' ⟨rfl,rfl,rfl⟩
   exact ⟨_,wV _ _ _ _ _ _ rfl rfl rfl z0 z1,z3 _ _ HU.out.2.2.1 (by omega) (by omega),.inr ⟨k3.net,_,_,_,_,_,_,by rw[sT H1.out,bind_some H2.out,H3.out];rfl,by rw[<-HU.out.2.2.2],hN,HV.out.2.1⟩⟩
end
end Ew
end
section
open Go.RowKit
namespace Nx
section
variable (n:Nt) (bn:Nat) (w:World) (adF adI adO adK adN adC:Option Addr) (capF capI capO capK capN capC:Nat)
theorem B9 (h0:4000<n.places) (h1:n.places≤10000000) (h4:n.ins.length+n.outs.length+n.keeps.length≤10000000) :
    Calls Tryz.prog 56 #[.agg #[.int .i64 n.places,.slice adF n.first.length capF,.slice adI n.ins.length capI,.slice adO n.outs.length capO,.slice adK n.keeps.length capK,.slice adN n.nums.length capN,.slice adC n.code.length capC],.func (.func 55) #[] #[.pointer (some ⟨bn,0,none⟩)]] w fun e w'=>e=.returned (.int .i64 (4:Int))/\Below w.heap.size w w':=by
 have q0:=Y0
 go_enter Tryz.func56,Tryz.ntmps56
 go_wp2
 refine wp_loop_rounds 5 ?_
 rw[rounds_succ]
 go_wp2
 go_ret
 exact ⟨rfl,aD w _⟩
theorem L0 (hp:0≤n.places) (h1:n.places≤4000) (h2:n.code.length≤4000) (h3:n.nums.length≤4000) (h0:4000<n.ins.length+n.outs.length+n.keeps.length) (h4:n.ins.length+n.outs.length+n.keeps.length≤10000000) :
    Calls Tryz.prog 56 #[.agg #[.int .i64 n.places,.slice adF n.first.length capF,.slice adI n.ins.length capI,.slice adO n.outs.length capO,.slice adK n.keeps.length capK,.slice adN n.nums.length capN,.slice adC n.code.length capC],.func (.func 55) #[] #[.pointer (some ⟨bn,0,none⟩)]] w fun e w'=>e=.returned (.int .i64 (4:Int))/\Below w.heap.size w w':=by
 have q0:=Y0;have q1:=Dg;have q2:=Df;have q3:=De
 go_enter Tryz.func56,Tryz.ntmps56
 go_wp2
 refine wp_loop_rounds 5 ?_
 rw[rounds_succ]
 go_wp2
 rw[rounds_succ]
 go_wp2
 rw[rounds_succ]
 go_wp2
 rw[rounds_succ]
 go_wp2
 go_ret
 exact ⟨rfl,aD w _⟩
end
theorem Kw (B:Nat) (n:Nt) (w:World) (vF vI vO vK vN vC:Value) (h:eQ B w n vF vI vO vK vN vC) (hp:0≤n.places) (h1:n.places≤2000000) (h2:n.code.length≤4000) (h3:n.nums.length≤4000) (h4:n.ins.length+n.outs.length+n.keeps.length≤10000000) (hs:¬iR n) :
    Calls Tryz.prog 29 #[.agg #[.int .i64 n.places,vF,vI,vO,vK,vN,vC]] w fun e w'=>e=.returned (.iface 94 (.int .i64 4))/\Below w.heap.size w w':=by
 obtain ⟨adF,_,_,capF,rfl,-,-⟩:=h.f
 obtain ⟨adI,_,_,capI,rfl,-,-⟩:=h.i
 obtain ⟨adO,_,_,capO,rfl,-,-⟩:=h.o
 obtain ⟨adK,_,_,capK,rfl,-,-⟩:=h.k
 obtain ⟨adN,_,_,capN,rfl,-,-⟩:=h.m
 obtain ⟨adC,_,_,capC,rfl,-,-⟩:=h.c
 have hwh:Calls Tryz.prog 56 #[.agg #[.int .i64 n.places,.slice adF n.first.length capF,.slice adI n.ins.length capI,.slice adO n.outs.length capO,.slice adK n.keeps.length capK,.slice adN n.nums.length capN,.slice adC n.code.length capC],.func (.func 55) #[] #[.pointer (some ⟨w.heap.size,0,none⟩)]] (w.alloc (.cells #[.int .i64 n.places,.slice adF n.first.length capF,.slice adI n.ins.length capI,.slice adO n.outs.length capO,.slice adK n.keeps.length capK,.slice adN n.nums.length capN,.slice adC n.code.length capC] 26)) fun e w'=>e=.returned (.int .i64 (4:Int))/\Below (w.alloc (.cells #[.int .i64 n.places,.slice adF n.first.length capF,.slice adI n.ins.length capI,.slice adO n.outs.length capO,.slice adK n.keeps.length capK,.slice adN n.nums.length capN,.slice adC n.code.length capC] 26)).heap.size (w.alloc (.cells #[.int .i64 n.places,.slice adF n.first.length capF,.slice adI n.ins.length capI,.slice adO n.outs.length capO,.slice adK n.keeps.length capK,.slice adN n.nums.length capN,.slice adC n.code.length capC] 26)) w':=by
  by_cases hpl:4000<n.places
  ·exact B9 n w.heap.size _ adF adI adO adK adN adC capF capI capO capK capN capC hpl (by omega) (by omega)
  ·refine L0 n w.heap.size _ adF adI adO adK adN adC capF capI capO capK capN capC hp (by omega) h2 h3 ?_ h4
   exact Classical.byContradiction fun hn=>hs ⟨by omega,h2,h3,by omega⟩
 clear h hp h1 h2 h3 h4 hs
 go_enter Tryz.func29,Tryz.ntmps29
 go_wp2_with (go_at_call 56;refine hwh.mono ?_;rintro e w1 ⟨rfl,hb1⟩)
 go_ret
 exact ⟨rfl,eX (aD w _) hb1⟩
end Nx
end
section
open Go.RowKit Px
namespace Ew
open Px.Em (Kd Vr eL eM jG Rg cR)
open Nx (Nt Sp eQ)
def o8 (c:fU):Option Nt:=match Em.sV c with
 | none=>none
 | some n=>if Nx.fM n=(0,-1) then some n else none
theorem oQ {n:Nt}(h:Nx.fM n=(0,-1)):Nx.iR n:=by
 unfold Nx.fM at h
 by_cases hw:Nx.cN n=0
 ·unfold Nx.cN at hw
  by_cases h0:n.places<0\/4000<n.places\/4000<n.code.length\/4000<n.nums.length\/4000<n.ins.length+n.outs.length+n.keeps.length
  ·rw[if_pos h0] at hw;omega
  ·exact ⟨by omega,by omega,by omega,by omega⟩
 ·rw[if_neg hw] at h;injection h with h;exact absurd h hw
def aP6 (c:fU) (w:World) (e:Ending) (w':World):Prop:=Below w.heap.size w w'/\((o8 c=none/\∃t v,e=.returned (.tuple #[.agg ZN,.iface t v]))\/∃(n:Nt) (vF vI vO vK vN vC:Value),o8 c=some n/\e=.returned (.tuple #[.agg #[.int .i64 n.places,vF,vI,vO,vK,vN,vC],.nilIface])/\qL (fun b=>w.heap.size≤b/\b<w'.heap.size) w' n vF vI vO vK vN vC/\uY n/\Nx.fM n=(0,-1))
theorem tJ (tmps:Array Value) (W:World) (c:Nat) (fc:Array Value) (v:Value) (hsz:fc.size=7) (hp:tmps[2]?.getD undef=.pointer (some ⟨c,0,none⟩)) (hq:tmps[3]?.getD undef=v) (hc:W.heap[c]?=some (.cells fc 26 (0,0))) :
    (results Tryz.f27 tmps).run Tryz.prog W=.ok (.tuple #[.agg fc,v]) W:=by
 simp[results,Tryz.results27,hp,hq,asAddr,vP hsz hc]
theorem Ig {w2:World}{c:Nat}{a0 a1 a2 a3 a4 a5 a6:Value}(hc:w2.heap[c]?=some (.cells ZN 26 (0,0))) {w3:World}(hw:w3=((((((w2.setCell ⟨c,0,none⟩ a0).setCell ⟨c,1,none⟩ a1).setCell ⟨c,2,none⟩ a2).setCell ⟨c,3,none⟩ a3).setCell ⟨c,4,none⟩ a4).setCell ⟨c,5,none⟩ a5).setCell ⟨c,6,none⟩ a6) :
    w3.heap[c]?=some (.cells #[a0,a1,a2,a3,a4,a5,a6] 26 (0,0))/\(∀k,k≠c->w3.heap[k]?=w2.heap[k]?)/\(∀B a,Below B a w2->B≤c->Below B a w3)/\w3.heap.size=w2.heap.size:=by
 have h0:=bQ (l:=[.int .i64 0,.slice none 0 0,.slice none 0 0,.slice none 0 0,.slice none 0 0,.slice none 0 0,.slice none 0 0]) hc 0 a0
 have h1:=bQ (l:=[a0,.slice none 0 0,.slice none 0 0,.slice none 0 0,.slice none 0 0,.slice none 0 0,.slice none 0 0]) h0 1 a1
 have h2:=bQ (l:=[a0,a1,.slice none 0 0,.slice none 0 0,.slice none 0 0,.slice none 0 0,.slice none 0 0]) h1 2 a2
 have h3:=bQ (l:=[a0,a1,a2,.slice none 0 0,.slice none 0 0,.slice none 0 0,.slice none 0 0]) h2 3 a3
 have h4:=bQ (l:=[a0,a1,a2,a3,.slice none 0 0,.slice none 0 0,.slice none 0 0]) h3 4 a4
 have h5:=bQ (l:=[a0,a1,a2,a3,a4,.slice none 0 0,.slice none 0 0]) h4 5 a5
 have h6:=bQ (l:=[a0,a1,a2,a3,a4,a5,.slice none 0 0]) h5 6 a6
 have ot:∀(W:World) (j:Nat) (u:Value) (k:Nat),k≠c->(W.setCell ⟨c,j,none⟩ u).heap[k]?=W.heap[k]?:=fun W j u k hk=>Below.heap_setCell _ _ _ _ hk
 have bl:∀(B:Nat) (a W:World) (j:Nat) (u:Value),Below B a W->B≤c->Below B a (W.setCell ⟨c,j,none⟩ u):=fun B a W j u h hB=>h.setCell (p:=⟨c,j,none⟩) hB u
 have sz:∀(W:World) (j:Nat) (u:Value),(W.setCell ⟨c,j,none⟩ u).heap.size=W.heap.size:=fun W j u=>by simp[World.setCell]
 rw[hw]
 refine ⟨h6,fun k hkc=>?_,fun B a hb hBc=>?_,?_⟩
 ·rw[ot _ _ _ _ hkc,ot _ _ _ _ hkc,ot _ _ _ _ hkc,ot _ _ _ _ hkc,ot _ _ _ _ hkc,ot _ _ _ _ hkc,ot _ _ _ _ hkc]
 ·exact bl _ _ _ _ _ (bl _ _ _ _ _ (bl _ _ _ _ _ (bl _ _ _ _ _ (bl _ _ _ _ _ (bl _ _ _ _ _ (bl _ _ _ _ _ hb hBc) hBc) hBc) hBc) hBc) hBc) hBc
 ·rw[sz,sz,sz,sz,sz,sz,sz]
section
variable {A:Nat->Prop}{w:World}
theorem Rf {c:fU}{S:ByteArray}{a a':Option Addr}{n m n' m':Nat}(hC:gJ A w c (.agg #[.string S,.slice a n m,.slice a' n' m'])) (hA:∀x,A x->x<w.heap.size) (hem:EmC c) :
    Calls Tryz.prog 27 #[.agg #[.string S,.slice a n m,.slice a' n' m']] w (aP6 c w):=by
 obtain ⟨W0,hW0⟩:∃W0,W0=(w.alloc (.cells #[.string S,.slice a n m,.slice a' n' m'] 52)).alloc (.cells ZN 26):=⟨_,rfl⟩
 obtain ⟨U1,hU1⟩:∃U1,U1=w.alloc (.cells #[.string S,.slice a n m,.slice a' n' m'] 52):=⟨_,rfl⟩
 have s1:U1.heap.size=w.heap.size+1:=by rw[hU1];simp
 have hW0':W0=U1.alloc (.cells ZN 26):=by rw[hU1];exact hW0
 have s0:W0.heap.size=w.heap.size+2:=by rw[hW0'];simp[s1]
 have b1:Below w.heap.size w U1:=by rw[hU1];exact aC _ _
 have b2:Below U1.heap.size U1 W0:=by rw[hW0'];exact aC _ _
 have x0:W0.heap[w.heap.size]?=some (.cells #[.string S,.slice a n m,.slice a' n' m'] 52 (0,0)):=aH b2 (by rw[hU1];exact bE w _)
 have x1:W0.heap[w.heap.size+1]?=some (.cells ZN 26 (0,0)):=by rw[<-s1,hW0'];exact bE U1 _
 have hb0:Below w.heap.size w W0:=aN b1 b2
 have cB:∀W,Below w.heap.size w W->gJ A W c (.agg #[.string S,.slice a n m,.slice a' n' m']):=fun W hb=>by
  obtain ⟨p1,p2,p3,p4,p5,p6,p7,p8,p9⟩:=hC
  have kp:aX A A w W:=fun x hx hl=>⟨hx,hb.block x hl⟩
  exact ⟨p1,p2,p3,p4,p5,p6,p7,p8.carry kp,p9.carry kp (aL.carry kp 6)⟩
 have hck:Calls Tryz.prog 53 #[.agg #[.string S,.slice a n m,.slice a' n' m']] W0 fun e w'=>e=.returned .nilIface/\Hid (Below W0.heap.size W0 w'):=(iM (cB W0 hb0) hem.run.nm).mono fun e w' h=>by
  rw[hem.run.ok] at h
  obtain ⟨hb,⟨_,rfl⟩|⟨_,h,_⟩|⟨_,_,_,h,_⟩⟩:=h
  ·exact ⟨rfl,hb⟩
  ·simp at h
  ·simp at h
 have HC:Hid ((∀W,Below w.heap.size w W->gJ A W c (.agg #[.string S,.slice a n m,.slice a' n' m']))/\(∀x,A x->x<w.heap.size)/\EmC c):=⟨cB,hA,hem⟩
 have HB:Hid (Below w.heap.size w W0/\W0.heap.size=w.heap.size+2/\W0.heap[w.heap.size]?=some (.cells #[.string S,.slice a n m,.slice a' n' m'] 52 (0,0))/\W0.heap[w.heap.size+1]?=some (.cells ZN 26 (0,0))):=⟨hb0,s0,x0,x1⟩
 have y0:=aA x0 0 (u:=.string S) rfl
 have y1:=aA x0 1 (u:=.slice a n m) rfl
 have y2:=aA x0 2 (u:=.slice a' n' m') rfl
 clear hC hA hem cB s1 hW0' hU1 s0 b1 b2 x0 x1 hb0
 go_enter Tryz.func27,Tryz.ntmps27
 go_upto_region 1 with fail
 rw[show (w.alloc (.cells #[.string S,.slice a n m,.slice a' n' m'] 52)).alloc (.cells #[.int .i64 0,.slice none 0 0,.slice none 0 0,.slice none 0 0,.slice none 0 0,.slice none 0 0,.slice none 0 0] 26)=W0 from hW0.symm]
 clear hW0
 go_upto_region 4 with (go_at_call 53;refine hck.mono ?_;rintro e w1 ⟨rfl,h1⟩)
 have hb1:Below w.heap.size w w1:=aN HB.out.1 h1.out
 have x1:=aH h1.out HB.out.2.2.2
 have y0:=aM h1.out y0
 have y1:=aM h1.out y1
 have y2:=aM h1.out y2
 have hwr:=Gv (HC.out.1 w1 hb1) (fun x hx=>Nat.lt_of_lt_of_le (HC.out.2.1 x hx) hb1.size) HC.out.2.2
 have HB1:Hid (Below w.heap.size w w1/\w.heap.size+2≤w1.heap.size/\w1.heap[w.heap.size+1]?=some (.cells ZN 26 (0,0))):=⟨hb1,by have:=h1.out.size;have:=HB.out.2.1;omega,x1⟩
 clear hck h1 hb1 x1
 cases h1:Em.sV c with
 | none=>
  have H1:Hid (Em.sV c=none):=h1
  clear h1
  have hwr':Calls Tryz.prog 54 #[.agg #[.string S,.slice a n m,.slice a' n' m']] w1 fun e w'=>e=.returned (.tuple #[.agg ZN,.iface 94 (.int .i64 4)])/\Hid (Below w1.heap.size w1 w'):=hwr.mono fun e w' h=>by
   rw[H1.out] at h
   obtain ⟨hb,⟨_,rfl⟩|⟨_,_,_,_,_,_,_,h,_⟩⟩:=h
   ·exact ⟨rfl,hb⟩
   ·simp at h
  clear hwr
  unfold ZN at hwr'
  go_upto_region 5 with (go_at_call 54;refine hwr'.mono ?_;rintro e w2 ⟨rfl,h2⟩)
  obtain ⟨V,hV⟩:∃V,V=w2.alloc (.cells #[.int .i64 0,.slice none 0 0,.slice none 0 0,.slice none 0 0,.slice none 0 0,.slice none 0 0,.slice none 0 0] 26):=⟨_,rfl⟩
  have hbV:Below w2.heap.size w2 V:=by rw[hV];exact aC _ _
  have u1:=aH hbV (aH h2.out HB1.out.2.2)
  have HBV:Hid (Below w.heap.size w V/\V.heap[w.heap.size+1]?=some (.cells ZN 26 (0,0))):=⟨aN (aN HB1.out.1 h2.out) hbV,u1⟩
  obtain ⟨r0,r1,r2,r3,r4,r5,r6⟩:=gC u1
  have rf:∀o,V.frozen? ⟨w.heap.size+1,o,none⟩=false:=fun o=>aE u1 o
  rw[<-hV]
  clear hV hbV h2 hwr' u1
  go_wp2_with fail
  obtain ⟨X,hX⟩:∃X,X=((((((V.setCell ⟨w.heap.size+1,0,none⟩ (.int .i64 0)).setCell ⟨w.heap.size+1,1,none⟩ (.slice none 0 0)).setCell ⟨w.heap.size+1,2,none⟩ (.slice none 0 0)).setCell ⟨w.heap.size+1,3,none⟩ (.slice none 0 0)).setCell ⟨w.heap.size+1,4,none⟩ (.slice none 0 0)).setCell ⟨w.heap.size+1,5,none⟩ (.slice none 0 0)).setCell ⟨w.heap.size+1,6,none⟩ (.slice none 0 0):=⟨_,rfl⟩
  rw[<-hX]
  obtain ⟨z0,z1,z2,z3⟩:=Ig HBV.out.2 hX
  clear hX
  refine bodyPost_ret (tJ _ _ (w.heap.size+1) _ _ rfl rfl rfl z0) rfl ?_
  exact ⟨z2 _ _ HBV.out.1 (by omega),.inl ⟨by unfold o8;rw[H1.out],_,_,rfl⟩⟩
 | some N=>
  have H1:Hid (Em.sV c=some N):=h1
  clear h1
  have hwr':Calls Tryz.prog 54 #[.agg #[.string S,.slice a n m,.slice a' n' m']] w1 fun e w'=>∃e1 l1 o1 e2 l2 o2 e3 l3 o3 e4 l4 o4 e5 l5 o5 e6 l6 o6,e=.returned (.tuple #[.agg #[.int .i64 N.places,.slice e1 l1 o1,.slice e2 l2 o2,.slice e3 l3 o3,.slice e4 l4 o4,.slice e5 l5 o5,.slice e6 l6 o6],.nilIface])/\Hid (Below w1.heap.size w1 w'/\qL (fun b=>w1.heap.size≤b/\b<w'.heap.size) w' N (.slice e1 l1 o1) (.slice e2 l2 o2) (.slice e3 l3 o3) (.slice e4 l4 o4) (.slice e5 l5 o5) (.slice e6 l6 o6)/\uY N):=hwr.mono fun e w' h=>by
   rw[H1.out] at h
   obtain ⟨hb,⟨h,_⟩|⟨nn,vF,vI,vO,vK,vN,vC,h,rfl,hN,hf⟩⟩:=h
   ·simp at h
   ·injection h with h
    subst h
    obtain ⟨e1,_,_,o1,rfl,_⟩:=id hN.f
    obtain ⟨e2,_,_,o2,rfl,_⟩:=id hN.i
    obtain ⟨e3,_,_,o3,rfl,_⟩:=id hN.o
    obtain ⟨e4,_,_,o4,rfl,_⟩:=id hN.k
    obtain ⟨e5,_,_,o5,rfl,_⟩:=id hN.m
    obtain ⟨e6,_,_,o6,rfl,_⟩:=id hN.c
    exact ⟨_,_,_,_,_,_,_,_,_,_,_,_,_,_,_,_,_,_,rfl,hb,hN,hf⟩
  obtain ⟨pl,hpl⟩:∃pl,pl=N.places:=⟨_,rfl⟩
  rw[<-hpl] at hwr'
  have HPL:Hid (pl=N.places):=hpl
  clear hwr hpl
  go_upto_region 5 with (go_at_call 54;refine hwr'.mono ?_;rintro e w2 ⟨e1,l1,o1,e2,l2,o2,e3,l3,o3,e4,l4,o4,e5,l5,o5,e6,l6,o6,rfl,h2⟩)
  obtain ⟨q5,hq5⟩:∃q5,q5=w2.heap.size:=⟨_,rfl⟩
  obtain ⟨V,hV⟩:∃V,V=w2.alloc (.cells #[.int .i64 pl,.slice e1 l1 o1,.slice e2 l2 o2,.slice e3 l3 o3,.slice e4 l4 o4,.slice e5 l5 o5,.slice e6 l6 o6] 26):=⟨_,rfl⟩
  have hbV:Below w2.heap.size w2 V:=by rw[hV];exact aC _ _
  have hkV:V.heap[q5]?=some (.cells #[.int .i64 pl,.slice e1 l1 o1,.slice e2 l2 o2,.slice e3 l3 o3,.slice e4 l4 o4,.slice e5 l5 o5,.slice e6 l6 o6] 26 (0,0)):=by rw[hV,hq5];exact bE w2 _
  have hNV:qL (fun b=>w1.heap.size≤b/\b<V.heap.size) V N (.slice e1 l1 o1) (.slice e2 l2 o2) (.slice e3 l3 o3) (.slice e4 l4 o4) (.slice e5 l5 o5) (.slice e6 l6 o6):=h2.out.2.1.carry fun b hb hl=>⟨⟨hb.1,Nat.lt_of_lt_of_le hb.2 hbV.size⟩,hbV.block b hl⟩
  have u1:=aH hbV (aH h2.out.1 HB1.out.2.2)
  have HBV:Hid (Below w.heap.size w V/\V.heap[w.heap.size+1]?=some (.cells ZN 26 (0,0))/\uY N/\qL (fun b=>w1.heap.size≤b/\b<V.heap.size) V N (.slice e1 l1 o1) (.slice e2 l2 o2) (.slice e3 l3 o3) (.slice e4 l4 o4) (.slice e5 l5 o5) (.slice e6 l6 o6)/\V.heap[q5]?=some (.cells #[.int .i64 pl,.slice e1 l1 o1,.slice e2 l2 o2,.slice e3 l3 o3,.slice e4 l4 o4,.slice e5 l5 o5,.slice e6 l6 o6] 26 (0,0))):=⟨aN (aN HB1.out.1 h2.out.1) hbV,u1,h2.out.2.2,hNV,hkV⟩
  obtain ⟨p0,p1,p2,p3,p4,p5,p6⟩:=gC hkV
  by_cases h2':Nx.fM N=(0,-1)
  ·have H2:Hid (Nx.fM N=(0,-1)):=h2'
   clear h2'
   have hnet:=(show Calls Tryz.prog 29 #[.agg #[.int .i64 pl,.slice e1 l1 o1,.slice e2 l2 o2,.slice e3 l3 o3,.slice e4 l4 o4,.slice e5 l5 o5,.slice e6 l6 o6]] V fun e w'=>e=.returned .nilIface/\Hid (Below V.heap.size V w') from by
    have hv:=hNV.netV (B:=V.heap.size) fun b hb=>hb.2
    rw[HPL.out]
    refine (Nx.iM V.heap.size N V _ _ _ _ _ _ hv (Nat.le_refl _) (oQ H2.out)).mono fun e w' h=>?_
    obtain ⟨v,rfl,he,hb⟩:=h
    rw[H2.out] at he
    rcases he with ⟨_,_,rfl⟩|⟨c1,_,_⟩|⟨c1,_⟩
    ·exact ⟨rfl,hb⟩
    ·exact absurd rfl c1
    ·exact absurd rfl c1)
   rw[<-hV,<-hq5]
   clear hV hq5 hbV hkV hNV h2 hwr' u1
   go_upto_region 9 with (go_at_call 29;refine hnet.mono ?_;rintro e w3 ⟨rfl,h3⟩)
   have u1:=aH h3.out HBV.out.2.1
   have hk3:=aH h3.out HBV.out.2.2.2.2
   have HBW:Hid (Below w.heap.size w w3/\w3.heap[w.heap.size+1]?=some (.cells ZN 26 (0,0))/\qL (fun b=>w1.heap.size≤b/\b<w3.heap.size) w3 N (.slice e1 l1 o1) (.slice e2 l2 o2) (.slice e3 l3 o3) (.slice e4 l4 o4) (.slice e5 l5 o5) (.slice e6 l6 o6)):=⟨aN HBV.out.1 h3.out,u1,HBV.out.2.2.2.1.carry fun b hb hl=>⟨⟨hb.1,Nat.lt_of_lt_of_le hb.2 h3.out.size⟩,h3.out.block b hl⟩⟩
   obtain ⟨r0,r1,r2,r3,r4,r5,r6⟩:=gC u1
   have rf:∀o,w3.frozen? ⟨w.heap.size+1,o,none⟩=false:=fun o=>aE u1 o
   obtain ⟨p0,p1,p2,p3,p4,p5,p6⟩:=gC hk3
   clear hnet h3 u1 hk3
   go_wp2_with fail
   obtain ⟨X,hX⟩:∃X,X=((((((w3.setCell ⟨w.heap.size+1,0,none⟩ (.int .i64 pl)).setCell ⟨w.heap.size+1,1,none⟩ (.slice e1 l1 o1)).setCell ⟨w.heap.size+1,2,none⟩ (.slice e2 l2 o2)).setCell ⟨w.heap.size+1,3,none⟩ (.slice e3 l3 o3)).setCell ⟨w.heap.size+1,4,none⟩ (.slice e4 l4 o4)).setCell ⟨w.heap.size+1,5,none⟩ (.slice e5 l5 o5)).setCell ⟨w.heap.size+1,6,none⟩ (.slice e6 l6 o6):=⟨_,rfl⟩
   rw[<-hX]
   obtain ⟨z0,z1,z2,z3⟩:=Ig HBW.out.2.1 hX
   clear hX
   refine bodyPost_ret (tJ _ _ (w.heap.size+1) _ _ rfl rfl rfl z0) rfl ?_
   refine ⟨z2 _ _ HBW.out.1 (by omega),.inr ⟨N,_,_,_,_,_,_,by unfold o8;rw[H1.out];exact if_pos H2.out,by rw[<-HPL.out];rfl,HBW.out.2.2.carry fun b hb hl=>⟨⟨?_,by rw[z3];exact hb.2⟩,z1 b ?_⟩,HBV.out.2.2.1,H2.out⟩⟩
   ·have:=HB1.out.2.1;omega
   ·have:=HB1.out.2.1;omega
  ·have H2:Hid (Nx.fM N≠(0,-1)):=h2'
   clear h2'
   have hnet:=(show Calls Tryz.prog 29 #[.agg #[.int .i64 pl,.slice e1 l1 o1,.slice e2 l2 o2,.slice e3 l3 o3,.slice e4 l4 o4,.slice e5 l5 o5,.slice e6 l6 o6]] V fun e w'=>∃t v,e=.returned (.iface t v)/\Hid (Below V.heap.size V w') from by
    have hv:=hNV.netV (B:=V.heap.size) fun b hb=>hb.2
    have hf:=h2.out.2.2
    rw[HPL.out]
    by_cases hs:Nx.iR N
    ·refine (Nx.iM V.heap.size N V _ _ _ _ _ _ hv (Nat.le_refl _) hs).mono fun e w' h=>?_
     obtain ⟨v,rfl,he,hb⟩:=h
     rcases he with ⟨c1,c2,rfl⟩|⟨_,_,rfl⟩|⟨_,g,q,_,_,rfl,_⟩
     ·exact absurd (Prod.ext c1 c2) H2.out
     ·exact ⟨_,_,rfl,hb⟩
     ·exact ⟨_,_,rfl,hb⟩
    ·refine (Nx.Kw V.heap.size N V _ _ _ _ _ _ hv (by rw[hf.len];omega) (by rw[hf.len];have:=hf.few;omega) hf.code (by have:=hf.nums;have:=hf.code;omega) (by have:=hf.few;have:=hf.ins;have:=hf.outs;have:=hf.keeps;omega) hs).mono fun e w' h=>?_
     obtain ⟨rfl,hb⟩:=h
     exact ⟨_,_,rfl,hb⟩)
   rw[<-hV,<-hq5]
   clear hV hq5 hbV hkV hNV h2 hwr' u1
   go_upto_region 7 with (go_at_call 29;refine hnet.mono ?_;rintro e w3 ⟨tt,tv,rfl,h3⟩)
   have u1:=aH h3.out HBV.out.2.1
   have HBW:Hid (Below w.heap.size w w3/\w3.heap[w.heap.size+1]?=some (.cells ZN 26 (0,0))):=⟨aN HBV.out.1 h3.out,u1⟩
   obtain ⟨r0,r1,r2,r3,r4,r5,r6⟩:=gC u1
   have rf:∀o,w3.frozen? ⟨w.heap.size+1,o,none⟩=false:=fun o=>aE u1 o
   clear hnet h3 u1 p0 p1 p2 p3 p4 p5 p6
   go_wp2_with fail
   obtain ⟨X,hX⟩:∃X,X=((((((w3.setCell ⟨w.heap.size+1,0,none⟩ (.int .i64 0)).setCell ⟨w.heap.size+1,1,none⟩ (.slice none 0 0)).setCell ⟨w.heap.size+1,2,none⟩ (.slice none 0 0)).setCell ⟨w.heap.size+1,3,none⟩ (.slice none 0 0)).setCell ⟨w.heap.size+1,4,none⟩ (.slice none 0 0)).setCell ⟨w.heap.size+1,5,none⟩ (.slice none 0 0)).setCell ⟨w.heap.size+1,6,none⟩ (.slice none 0 0):=⟨_,rfl⟩
   rw[<-hX]
   obtain ⟨z0,z1,z2,z3⟩:=Ig HBW.out.2 hX
   clear hX
   refine bodyPost_ret (tJ _ _ (w.heap.size+1) _ _ rfl rfl rfl z0) rfl ?_
   exact ⟨z2 _ _ HBW.out.1 (by omega),.inl ⟨by unfold o8;rw[H1.out];exact if_neg H2.out,_,_,rfl⟩⟩
end
end Ew
end
end Go.Proofs.YtcdbhoknhnimcaaGreatDoor
