import Derived.Test.YthieaobjdpfcoaaGreatDoorVEzf0
import Derived.Test.YthieaobjdpfcoaaGreatDoorVNtC
import Derived.Test.YthieaobjdpfcoaaGreatDoorVPcatch
set_option maxRecDepth 100000
set_option maxHeartbeats 16000000
namespace Go.Proofs.YthieaobjdpfcoaaGreatDoor
section
open Go.RowKit Px
namespace Ew
open Px.Em (Kd Vr eQ eR jP Rg cX)
open Nx (Nt Sp)
structure wV (n:Nt):Prop where
 len:n.places=n.first.length
 few:n.first.length≤1004000
 code:n.code.length≤4000
 keeps:n.keeps.length≤n.first.length
 ins:n.ins.length≤n.first.length
 outs:n.outs.length≤n.first.length
 nums:n.nums.length≤n.code.length
 nf:∀x∈n.first,jF x
 nn:∀x∈n.nums,jF x
theorem rQ.nt {E:Nat}{ns:List bE}{k:Kd}(h:rQ E ns k):wV k.net:=⟨h.len,h.few,h.code,h.keeps,h.ins,h.outs,h.nums,h.nf,h.nn⟩
def aV9 (w:World) (o:Option Nt) (e:Ending) (w':World):Prop:=Below w.heap.size w w'/\((o=none/\e=.returned (.tuple #[.agg ZN,.iface 86 (.int .i64 4)]))\/∃(n:Nt) (vF vI vO vK vN vC:Value),o=some n/\e=.returned (.tuple #[.agg #[.int .i64 n.places,vF,vI,vO,vK,vN,vC],.nilIface])/\rE (fun b=>w.heap.size≤b/\b<w'.heap.size) w' n vF vI vO vK vN vC/\wV n)
theorem Um (M:Int) (w:World):(Instr.makeMap 132 (some (.int .i64 M))).run Tryz.prog w=.ok (.map (some w.heap.size)) (w.alloc (.map #[] 0)):=by kernel_rfl
theorem Un (w:World):(Instr.makeMap 133 none).run Tryz.prog w=.ok (.map (some w.heap.size)) (w.alloc (.map #[] 0)):=by kernel_rfl
theorem Dd (w:World) (O U Q:Value):∃W0 W1,W0=((w.alloc (.cells #[O,U,Q] 47)).alloc (.cells ZN 26)).alloc (.cells #[.nilIface] 33)/\
    W1=((W0.alloc (.map #[] 0)).alloc (.map #[] 0)).alloc (.cells #[.int .i64 0,.slice none 0 0,.slice none 0 0,.slice none 0 0,.slice none 0 0,.slice none 0 0,.slice none 0 0,.map (some (w.heap.size+3)),.map (some (w.heap.size+4))] 135)/\
    Below w.heap.size w W0/\W0.heap.size=w.heap.size+3/\Below W0.heap.size W0 W1/\W1.heap.size=w.heap.size+6/\W0.heap[w.heap.size]?=some (.cells #[O,U,Q] 47 (0,0))/\W0.heap[w.heap.size+1]?=some (.cells ZN 26 (0,0))/\W0.heap[w.heap.size+2]?=some (.cells #[.nilIface] 33 (0,0))/\
    W1.heap[w.heap.size+5]?=some (.cells #[.int .i64 0,.slice none 0 0,.slice none 0 0,.slice none 0 0,.slice none 0 0,.slice none 0 0,.slice none 0 0,.map (some (w.heap.size+3)),.map (some (w.heap.size+4))] 135 (0,0))/\Gm.Mp Tryz.prog 9 W1 (w.heap.size+3) 0 (fun _=>none)/\Gm.Mp Tryz.prog 2 W1 (w.heap.size+4) 0 (fun _=>none):=by
 obtain ⟨s,y⟩:∃s,s=w.alloc (.cells #[O,U,Q] 47):=⟨_,rfl⟩
 obtain ⟨j,h⟩:∃j,j=s.alloc (.cells ZN 26):=⟨_,rfl⟩
 obtain ⟨c,u⟩:∃c,c=j.alloc (.cells #[.nilIface] 33):=⟨_,rfl⟩
 obtain ⟨I,r⟩:∃I,I=c.alloc (.map #[] 0):=⟨_,rfl⟩
 obtain ⟨D,l⟩:∃D,D=I.alloc (.map #[] 0):=⟨_,rfl⟩
 obtain ⟨J,k⟩:∃J,J=D.alloc (.cells #[.int .i64 0,.slice none 0 0,.slice none 0 0,.slice none 0 0,.slice none 0 0,.slice none 0 0,.slice none 0 0,.map (some (w.heap.size+3)),.map (some (w.heap.size+4))] 135):=⟨_,rfl⟩
 have e:s.heap.size=w.heap.size+1:=by rw[y];simp
 have s2:j.heap.size=w.heap.size+2:=by rw[h];simp[e]
 have Y:c.heap.size=w.heap.size+3:=by rw[u];simp[s2]
 have Z:I.heap.size=w.heap.size+4:=by rw[r];simp[Y]
 have s5:D.heap.size=w.heap.size+5:=by rw[l];simp[Z]
 have s6:J.heap.size=w.heap.size+6:=by rw[k];simp[s5]
 have b1:Below w.heap.size w s:=by rw[y];exact aL _ _
 have b2:Below s.heap.size s j:=by rw[h];exact aL _ _
 have b3:Below j.heap.size j c:=by rw[u];exact aL _ _
 have b4:Below c.heap.size c I:=by rw[r];exact aL _ _
 have b5:Below I.heap.size I D:=by rw[l];exact aL _ _
 have X:Below D.heap.size D J:=by rw[k];exact aL _ _
 have n1:s.heap[w.heap.size]?=some (.cells #[O,U,Q] 47 (0,0)):=by rw[y];exact aX w _
 have n2:j.heap[w.heap.size+1]?=some (.cells ZN 26 (0,0)):=by rw[<-e,h];exact aX s _
 have n3:c.heap[w.heap.size+2]?=some (.cells #[.nilIface] 33 (0,0)):=by rw[<-s2,u];exact aX j _
 have n4:Gm.Mp Tryz.prog 9 I (w.heap.size+3) 0 (fun _=>none):=by rw[<-Y,r];exact Gm.Mp.made _ _ _
 have n5:Gm.Mp Tryz.prog 2 D (w.heap.size+4) 0 (fun _=>none):=by rw[<-Z,l];exact Gm.Mp.made _ _ _
 have n6:J.heap[w.heap.size+5]?=some (.cells #[.int .i64 0,.slice none 0 0,.slice none 0 0,.slice none 0 0,.slice none 0 0,.slice none 0 0,.slice none 0 0,.map (some (w.heap.size+3)),.map (some (w.heap.size+4))] 135 (0,0)):=by rw[<-s5,k];exact aX D _
 refine ⟨c,J,by rw[u,h,y],by rw[k,l,r],aQ (aQ b1 b2) b3,Y,aQ (aQ b4 b5) X,s6,aD b3 (aD b2 n1),aD b3 n2,n3,n6,n4.keep ((X.block _ (by omega)).trans (b5.block _ (by omega))),n5.keep (X.block _ (by omega))⟩
section
variable {A:Nat->Prop}{w:World}
theorem aG7 {c:fZ}{S:ByteArray}{a a':Option Addr}{n m n' m':Nat}(hC:gQ A w c (.agg #[.string S,.slice a n m,.slice a' n' m'])) (hA:∀x,A x->x<w.heap.size) (ac:Xj c) :
    Calls Tryz.prog 38 #[.agg #[.string S,.slice a n m,.slice a' n' m']] w (aV9 w (Em.uE c)):=by
 obtain ⟨k1,h1⟩:=lX c.vars Em.kd0
 have ca:∀(fn:Fn) (first cap:Array Value) (w:World),(Instr.makeFunc fn first cap).run Tryz.prog w=.ok (.func fn first cap) w:=fun _ _ _ _=>rfl
 have bz:=Um
 have bv:=Un
 obtain ⟨a0,n0,m0,bu,br,bo,O,hv,hg⟩:=hC
 have q2:Value.slice a n m=.slice a0 n0 m0:=by injection O with O;injection O with O;injection O with _ O;injection O
 have q3:Value.slice a' n' m'=.slice bu br bo:=by injection O with O;injection O with O;injection O with _ O;injection O with _ O;injection O
 rw[<-q2] at hv
 rw[<-q3] at hg
 obtain ⟨Z,az⟩:∃Z,Z=c.vars.length:=⟨_,rfl⟩
 have bn:=ac.few
 have ax:c.vars.length≤100000:=by omega
 have bg:c.regions.length≤100000:=by have:=xZ (f:=iG 6) (l:=c.regions) (fun r _=>by show 1≤1+_;omega);omega
 have bm:∀x∈c.vars,x.name∈cG c.vars:=fun x hx=>List.mem_map_of_mem hx
 have ag:(cG c.vars).length=Z:=by rw[az];simp[cG]
 obtain ⟨W0,k,bi,bh,ap,bq,ab,bj,x0,x1,x2,y5,y3,y4⟩:=Dd w (.string S) (.slice a n m) (.slice a' n' m')
 have ad:=aE2 (n:=Z) ag (by omega) (by omega) (by omega) y5 y3 y4
 have aw:bB A A w k:=fun x hx hl=>⟨hx,(aQ ap ab).block x hl⟩
 obtain ⟨s,X⟩:∃s:Nat->Prop,s=fun b=>b=w.heap.size+3\/b=w.heap.size+4\/b=w.heap.size+5:=⟨_,rfl⟩
 rw[<-X] at ad
 have ay:Ro A s k:=fun x hx=>⟨by have:=hA x hx;omega,fun hp=>by rw[X] at hp;have:=hA x hx;omega⟩
 have ba:∀b,s b->w.heap.size+3≤b:=fun b hb=>by rw[X] at hb;omega
 have ah:=Bz (hv.carry aw) ac.run.run.vn ac.run.n64 bm ax (by omega) ad (by show 0+(cG c.vars).length≤0+Z;omega) ay
 have c1:W0.cell? ⟨w.heap.size,1,none⟩=some (.slice a n m):=aF x0 1 rfl
 have u1:=(aD ab x1)
 have u2:=(aD ab x2)
 have u0:=(aD ab x0)
 have d1:k.cell? ⟨w.heap.size,1,none⟩=some (.slice a n m):=aF u0 1 rfl
 have D:Hid (Xj c/\mJ A w c.vars (.slice a n m)/\gP A w (aM A w 6) c.regions (.slice a' n' m')/\Ro A s k/\(∀b,s b->w.heap.size+3≤b)/\bB A A w k/\Z+Z+1+(c.regions.map (iG 6)).sum<1000000/\c.vars.length≤100000/\c.regions.length≤100000/\Z=c.vars.length/\eK Z (cG c.vars) s k (w.heap.size+5) Em.kd0):=⟨ac,hv,hg,ay,ba,aw,by omega,ax,bg,az,ad⟩
 have j:Hid (Below w.heap.size w k/\k.heap.size=w.heap.size+6/\k.heap[w.heap.size]?=some (.cells #[.string S,.slice a n m,.slice a' n' m'] 47 (0,0))/\k.heap[w.heap.size+1]?=some (.cells ZN 26 (0,0))/\k.heap[w.heap.size+2]?=some (.cells #[.nilIface] 33 (0,0))/\¬s w.heap.size/\¬s (w.heap.size+1)/\¬s (w.heap.size+2)):=⟨aQ ap ab,bj,u0,u1,u2,by rw[X];omega,by rw[X];omega,by rw[X];omega⟩
 have H1:Hid (Em.dR c.vars Em.kd0=some ((),k1)):=h1
 clear ac bn ax bg bm az ag hv hg ay ba aw ad X hA h1 O q2 q3 u0 u1 u2 x1 x2 y3 y4 y5 x0
 go_enter_defers Tryz.func38,Tryz.ntmps38
 go_upto_region 2 with fail
 rw[show ((w.alloc (.cells #[.string S,.slice a n m,.slice a' n' m'] 47)).alloc (.cells #[.int .i64 0,.slice none 0 0,.slice none 0 0,.slice none 0 0,.slice none 0 0,.slice none 0 0,.slice none 0 0] 26)).alloc (.cells #[.nilIface] 33)=W0 from bi.symm]
 rw[show w.heap.size+1+1=w.heap.size+2 from rfl]
 clear bi ap
 go_upto_region 3 with fail
 rw[show w.heap.size+3+1=w.heap.size+4 from rfl,show w.heap.size+4+1=w.heap.size+5 from rfl]
 rw[show (((W0.alloc (.map #[] 0)).alloc (.map #[] 0)).alloc (.cells #[.int .i64 0,.slice none 0 0,.slice none 0 0,.slice none 0 0,.slice none 0 0,.slice none 0 0,.slice none 0 0,.map (some (w.heap.size+3)),.map (some (w.heap.size+4))] 135))=k from bh.symm]
 clear bh ab bq bj c1
 go_upto_region 4 with (go_at_call 70;refine ah.mono ?_;rintro e w2 ⟨rfl,h2⟩)
 obtain ⟨kx,bb,A2⟩:=h2.out
 obtain rfl:kx=k1:=by have:=H1.out;rw[bb] at this;injection this with this;injection this
 have u0:=A2.2.1.heap j.out.2.2.1 j.out.2.2.2.2.2.1
 have d2:w2.cell? ⟨w.heap.size,2,none⟩=some (.slice a' n' m'):=aF u0 2 rfl
 have ao:bB A A w w2:=D.out.2.2.2.2.2.1.trans (A2.keep D.out.2.2.2.1) j.out.1.size
 have I:=xU (D.out.2.2.1.carry ao (aM.carry ao 6)) (fun l hl=>⟨D.out.1.lay l hl,D.out.1.run.run.st l hl,D.out.1.tm l hl⟩) (by rw[<-D.out.2.2.2.2.2.2.2.2.2.1];exact D.out.2.2.2.2.2.2.1) D.out.2.2.2.2.2.2.2.2.1 A2.1 (A2.ro D.out.2.2.2.1)
 have aa:Hid (At (Z+c.vars.length) (cG c.vars) s (w.heap.size+5) k Em.kd0 w2 kx):=A2
 have HP:Hid (∀b,s b->b<k.heap.size):=D.out.2.2.2.2.2.2.2.2.2.2.2.2
 clear ah h2 bb A2 u0 ao d1
 cases h2:Em.tick c.regions kx with
 | none=>
  have H2:Hid (Em.tick c.regions kx=none):=h2
  clear h2
  have ht:Calls Tryz.prog 71 #[.pointer (some ⟨w.heap.size+5,0,none⟩),.slice a' n' m'] w2 fun e w'=>e=Vl/\Hid (bM (Up s k w2) w2 w'):=I.mono fun e w' h=>by
   rcases h with ⟨rfl,_,h⟩|⟨_,_,_,h,_⟩
   ·exact ⟨rfl,h⟩
   ·rw[Hid,H2.out] at h;exact absurd h (by simp)
  clear I
  go_wp2_with (go_at_call 71;refine ht.mono ?_;rintro e w3 ⟨rfl,h3⟩)
  have HF:Hid (bM s k w3):=aa.out.2.1.up h3.out
  have u1:=HF.out.heap j.out.2.2.2.1 j.out.2.2.2.2.2.2.1
  have u2:=HF.out.heap j.out.2.2.2.2.1 j.out.2.2.2.2.2.2.2
  have ak:Below w.heap.size w w3:=j.out.1.trans (HF.out.below (by have:=j.out.2.1;omega) fun b hb=>by have:=D.out.2.2.2.2.1 b hb;omega)
  refine leaves_cons (f:=69) (args:=#[.pointer (some ⟨w.heap.size+1,0,none⟩),.pointer (some ⟨w.heap.size+2,0,none⟩)]) (by simp) (by simp[go_sem]) ?_
  refine (rG (w.heap.size+1) (w.heap.size+2) w3 [] (aF u1 0 rfl) (fun o h1 h6=>by
   obtain rfl|rfl|rfl|rfl|rfl|rfl:o=1\/o=2\/o=3\/o=4\/o=5\/o=6:=by omega
   all_goals exact aF u1 _ rfl) (fun o=>aG u1 o) (aF u2 0 rfl) (aG u2 0) (by omega)).mono ?_
  rintro e u' bk ⟨rfl,rfl,hw⟩
  obtain ⟨z0,z1,z2,z3⟩:=aA9 u1 u2 (by omega) hw
  exact ⟨_,yI _ _ _ _ _ _ rfl rfl rfl z0 z1,z3 _ _ ak (by omega) (by omega),.inl ⟨by rw[uD H1.out,aH H2.out];rfl,rfl⟩⟩
 | some x=>
  obtain ⟨⟨⟩,k2⟩:=x
  have H2:Hid (Em.tick c.regions kx=some ((),k2)):=h2
  clear h2
  have ht:Calls Tryz.prog 71 #[.pointer (some ⟨w.heap.size+5,0,none⟩),.slice a' n' m'] w2 fun e w'=>e=.returned (.tuple #[])/\Hid (At (Z+c.vars.length+1+(c.regions.map (iG 6)).sum) (cG c.vars) (Up s k w2) (w.heap.size+5) w2 kx w' k2):=I.mono fun e w' h=>by
   rcases h with ⟨_,h,_⟩|⟨_,_,rfl,h,h'⟩
   ·rw[Hid,H2.out] at h;exact absurd h (by simp)
   ·rw[Hid,H2.out] at h
    injection h with h
    injection h with _ h
    subst h
    exact ⟨rfl,h'⟩
  clear I
  go_upto_region 5 with (go_at_call 71;refine ht.mono ?_;rintro e w3 ⟨rfl,h3⟩)
  have f3:bM s k w3:=aa.out.2.1.up h3.out.2.1
  have u0:=f3.heap j.out.2.2.1 j.out.2.2.2.2.2.1
  have d3:w3.cell? ⟨w.heap.size,1,none⟩=some (.slice a n m):=aF u0 1 rfl
  have bf:bB A A w w3:=D.out.2.2.2.2.2.1.trans (D.out.2.2.2.1.keep f3) j.out.1.size
  have be:=h3.out.ro (aa.out.ro D.out.2.2.2.1)
  have Y:=aD6 (D.out.2.1.carry bf) D.out.1.run.run.vn D.out.2.2.2.2.2.2.2.1 h3.out.1 be
  have af:Hid (bM s k w3/\At (Z+c.vars.length+1+(c.regions.map (iG 6)).sum) (cG c.vars) (Up s k w2) (w.heap.size+5) w2 kx w3 k2):=⟨f3,h3.out⟩
  clear ht h3 f3 u0 bf be d2
  cases h3:Em.dN c.vars k2 with
  | none=>
   have H3:Hid (Em.dN c.vars k2=none):=h3
   clear h3
   have ht:Calls Tryz.prog 72 #[.pointer (some ⟨w.heap.size+5,0,none⟩),.slice a n m] w3 fun e w'=>e=Vl/\Hid (bM (Up (Up s k w2) w2 w3) w3 w'):=Y.mono fun e w' h=>by
    rcases h with ⟨rfl,_,h⟩|⟨_,_,_,h,_⟩
    ·exact ⟨rfl,h⟩
    ·rw[Hid,H3.out] at h;exact absurd h (by simp)
   clear Y
   go_wp2_with (go_at_call 72;refine ht.mono ?_;rintro e w4 ⟨rfl,h4⟩)
   have HF:Hid (bM s k w4):=aa.out.2.1.up (af.out.2.2.1.up h4.out)
   have u1:=HF.out.heap j.out.2.2.2.1 j.out.2.2.2.2.2.2.1
   have u2:=HF.out.heap j.out.2.2.2.2.1 j.out.2.2.2.2.2.2.2
   have ak:Below w.heap.size w w4:=j.out.1.trans (HF.out.below (by have:=j.out.2.1;omega) fun b hb=>by have:=D.out.2.2.2.2.1 b hb;omega)
   refine leaves_cons (f:=69) (args:=#[.pointer (some ⟨w.heap.size+1,0,none⟩),.pointer (some ⟨w.heap.size+2,0,none⟩)]) (by simp) (by simp[go_sem]) ?_
   refine (rG (w.heap.size+1) (w.heap.size+2) w4 [] (aF u1 0 rfl) (fun o h1 h6=>by
    obtain rfl|rfl|rfl|rfl|rfl|rfl:o=1\/o=2\/o=3\/o=4\/o=5\/o=6:=by omega
    all_goals exact aF u1 _ rfl) (fun o=>aG u1 o) (aF u2 0 rfl) (aG u2 0) (by omega)).mono ?_
   rintro e u' bk ⟨rfl,rfl,hw⟩
   obtain ⟨z0,z1,z2,z3⟩:=aA9 u1 u2 (by omega) hw
   exact ⟨_,yI _ _ _ _ _ _ rfl rfl rfl z0 z1,z3 _ _ ak (by omega) (by omega),.inl ⟨by rw[uD H1.out,bind_some H2.out,H3.out];rfl,rfl⟩⟩
  | some y=>
   obtain ⟨⟨⟩,k3⟩:=y
   have H3:Hid (Em.dN c.vars k2=some ((),k3)):=h3
   clear h3
   have ht:Calls Tryz.prog 72 #[.pointer (some ⟨w.heap.size+5,0,none⟩),.slice a n m] w3 fun e w'=>e=.returned (.tuple #[])/\Hid (At (Z+c.vars.length+1+(c.regions.map (iG 6)).sum) (cG c.vars) (Up (Up s k w2) w2 w3) (w.heap.size+5) w3 k2 w' k3):=Y.mono fun e w' h=>by
    rcases h with ⟨_,h,_⟩|⟨_,_,rfl,h,h'⟩
    ·rw[Hid,H3.out] at h;exact absurd h (by simp)
    ·rw[Hid,H3.out] at h
     injection h with h
     injection h with _ h
     subst h
     exact ⟨rfl,h'⟩
   clear Y
   go_upto_region 6 with (go_at_call 72;refine ht.mono ?_;rintro e w4 ⟨rfl,h4⟩)
   have f4:bM s k w4:=aa.out.2.1.up (af.out.2.2.1.up h4.out.2.1)
   have u1:=f4.heap j.out.2.2.2.1 j.out.2.2.2.2.2.2.1
   have u2:=f4.heap j.out.2.2.2.2.1 j.out.2.2.2.2.2.2.2
   have an:Below w.heap.size w w4:=j.out.1.trans (f4.below (by have:=j.out.2.1;omega) fun b hb=>by have:=D.out.2.2.2.2.1 b hb;omega)
   obtain ⟨⟨J,U⟩,hF,bc⟩:=h4.out.1
   have HV:Hid (CM (Up (Up (Up s k w2) w2 w3) w3 w4) w4 (w.heap.size+5) k3 J/\wV k3.net/\(∀g,Up (Up (Up s k w2) w2 w3) w3 w4 g->g≠w.heap.size+1/\g≠w.heap.size+2/\w.heap.size≤g/\g<w4.heap.size)):=⟨U,hF.nt,fun g hg=>by
    have s4:=bc g hg
    have s5:=an.size
    have s6:=af.out.1.size
    have s1:=j.out.2.1;have s2:=aa.out.2.1.size;have s3:=af.out.2.2.1.size
    rcases hg with ((h|h)|h)|h
    ·exact ⟨fun e=>j.out.2.2.2.2.2.2.1 (e▸h),fun e=>j.out.2.2.2.2.2.2.2 (e▸h),by have:=D.out.2.2.2.2.1 g h;omega,s4⟩
    all_goals exact ⟨by omega,by omega,by omega,s4⟩⟩
   have g0:=U.cell 0 (u:=.int .i64 k3.net.places) rfl
   have g1:=U.cell 1 (u:=J.v 1) rfl
   have g2:=U.cell 2 (u:=J.v 2) rfl
   have g3:=U.cell 3 (u:=J.v 3) rfl
   have g4:=U.cell 4 (u:=J.v 4) rfl
   have g5:=U.cell 5 (u:=J.v 5) rfl
   have g6:=U.cell 6 (u:=J.v 6) rfl
   obtain ⟨p3,ai⟩:∃p3,p3=k3.net.places:=⟨_,rfl⟩
   rw[<-ai] at g0
   obtain ⟨r0,r1,r2,r3,r4,r5,r6⟩:=gJ u1
   have rf:∀o,w4.frozen? ⟨w.heap.size+1,o,none⟩=false:=fun o=>aG u1 o
   have re:=aF u2 0 (u:=.nilIface) rfl
   have bw:=aG u2 0
   have HU:Hid (w4.heap[w.heap.size+1]?=some (.cells ZN 26 (0,0))/\w4.heap[w.heap.size+2]?=some (.cells #[.nilIface] 33 (0,0))/\Below w.heap.size w w4/\p3=k3.net.places):=⟨u1,u2,an,ai⟩
   obtain ⟨e1,l1,o1,al⟩:∃e l o,J.v 1=.slice e l o:=by obtain ⟨e,o,h⟩:=aP (U.row 1 (by omega) (by omega));exact ⟨e,_,o,h⟩
   obtain ⟨e2,l2,o2,au⟩:∃e l o,J.v 2=.slice e l o:=by obtain ⟨e,o,h⟩:=aP (U.row 2 (by omega) (by omega));exact ⟨e,_,o,h⟩
   obtain ⟨e3,l3,o3,av⟩:∃e l o,J.v 3=.slice e l o:=by obtain ⟨e,o,h⟩:=aP (U.row 3 (by omega) (by omega));exact ⟨e,_,o,h⟩
   obtain ⟨e4,l4,o4,am⟩:∃e l o,J.v 4=.slice e l o:=by obtain ⟨e,o,h⟩:=aP (U.row 4 (by omega) (by omega));exact ⟨e,_,o,h⟩
   obtain ⟨e5,l5,o5,ar⟩:∃e l o,J.v 5=.slice e l o:=by obtain ⟨e,o,h⟩:=aP (U.row 5 (by omega) (by omega));exact ⟨e,_,o,h⟩
   obtain ⟨e6,l6,o6,aj⟩:∃e l o,J.v 6=.slice e l o:=by obtain ⟨e,o,h⟩:=aP (U.row 6 (by omega) (by omega));exact ⟨e,_,o,h⟩
   have bp:Hid (J.v 1=.slice e1 l1 o1/\J.v 2=.slice e2 l2 o2/\J.v 3=.slice e3 l3 o3/\J.v 4=.slice e4 l4 o4/\J.v 5=.slice e5 l5 o5/\J.v 6=.slice e6 l6 o6):=⟨al,au,av,am,ar,aj⟩
   rw[al] at g1
   rw[au] at g2
   rw[av] at g3
   rw[am] at g4
   rw[ar] at g5
   rw[aj] at g6
   clear ht h4 f4 u1 u2 an U hF bc ai al au av am ar aj d3
   go_wp2_with fail
   obtain ⟨W5,ae⟩:∃W5,W5=(((((((w4.setCell ⟨w.heap.size+1,0,none⟩ (.int .i64 p3)).setCell ⟨w.heap.size+1,1,none⟩ (.slice e1 l1 o1)).setCell ⟨w.heap.size+1,2,none⟩ (.slice e2 l2 o2)).setCell ⟨w.heap.size+1,3,none⟩ (.slice e3 l3 o3)).setCell ⟨w.heap.size+1,4,none⟩ (.slice e4 l4 o4)).setCell ⟨w.heap.size+1,5,none⟩ (.slice e5 l5 o5)).setCell ⟨w.heap.size+1,6,none⟩ (.slice e6 l6 o6)).setCell ⟨w.heap.size+2,0,none⟩ .nilIface:=⟨_,rfl⟩
   rw[<-ae]
   obtain ⟨z0,z1,z2,z3⟩:=aA9 (v:=.nilIface) HU.out.1 HU.out.2.1 (by omega) ae
   have zS:W5.heap.size=w4.heap.size:=by rw[ae];simp only[World.setCell,Array.size_modify]
   clear ae
   have hN:=(HV.out.1.carry (Q:=fun b=>w.heap.size≤b/\b<W5.heap.size) (w':=W5) fun b hb hl=>⟨⟨(HV.out.2.2 b hb).2.2.1,by have:=(HV.out.2.2 b hb).2.2.2;rw[zS];exact this⟩,z2 b (HV.out.2.2 b hb).1 (HV.out.2.2 b hb).2.1⟩).netA
   obtain ⟨q1,q2,q3,q4,q5,q6⟩:=bp.out
   rw[q1,q2,q3,q4,q5,q6] at hN
   refine leaves_cons (f:=69) (args:=#[.pointer (some ⟨w.heap.size+1,0,none⟩),.pointer (some ⟨w.heap.size+2,0,none⟩)]) (by simp) (by simp[go_sem]) ?_
   refine (Y7 ⟨w.heap.size+1,0,none⟩ ⟨w.heap.size+2,0,none⟩ _).mono ?_
   rintro e u' bk ⟨rfl,rfl,rfl⟩
   exact ⟨_,yI _ _ _ _ _ _ rfl rfl rfl z0 z1,z3 _ _ HU.out.2.2.1 (by omega) (by omega),.inr ⟨k3.net,_,_,_,_,_,_,by rw[uD H1.out,bind_some H2.out,H3.out];rfl,by rw[<-HU.out.2.2.2],hN,HV.out.2.1⟩⟩
end
end Ew
end
section
open Go.RowKit
namespace Nx
section
variable (n:Nt) (bn:Nat) (w:World) (adF adI adO adK adN adC:Option Addr) (capF capI capO capK capN capC:Nat)
theorem I7 (h:4000<n.places) (c:n.places≤10000000) (k:n.ins.length+n.outs.length+n.keeps.length≤10000000) :
    Calls Tryz.prog 40 #[.agg #[.int .i64 n.places,.slice adF n.first.length capF,.slice adI n.ins.length capI,.slice adO n.outs.length capO,.slice adK n.keeps.length capK,.slice adN n.nums.length capN,.slice adC n.code.length capC],.func (.func 39) #[] #[.pointer (some ⟨bn,0,none⟩)]] w fun e w'=>e=.returned (.int .i64 (4:Int))/\Below w.heap.size w w':=by
 have j:=Ba
 go_enter Tryz.func40,Tryz.ntmps40
 go_wp2
 refine wp_loop_rounds 5 ?_
 rw[rounds_succ]
 go_wp2
 go_ret
 exact ⟨rfl,aE w _⟩
theorem Y5 (c:0≤n.places) (r:n.places≤4000) (j:n.code.length≤4000) (u:n.nums.length≤4000) (s:4000<n.ins.length+n.outs.length+n.keeps.length) (k:n.ins.length+n.outs.length+n.keeps.length≤10000000) :
    Calls Tryz.prog 40 #[.agg #[.int .i64 n.places,.slice adF n.first.length capF,.slice adI n.ins.length capI,.slice adO n.outs.length capO,.slice adK n.keeps.length capK,.slice adN n.nums.length capN,.slice adC n.code.length capC],.func (.func 39) #[] #[.pointer (some ⟨bn,0,none⟩)]] w fun e w'=>e=.returned (.int .i64 (4:Int))/\Below w.heap.size w w':=by
 have h:=Ba;have l:=Fq;have D:=Fp;have y:=Fo
 go_enter Tryz.func40,Tryz.ntmps40
 go_wp2
 refine wp_loop_rounds 5 ?_
 rw[rounds_succ]
 go_wp2
 rw[rounds_succ]
 go_wp2
 rw[rounds_succ]
 go_wp2
 rw[rounds_succ]
 go_wp2
 go_ret
 exact ⟨rfl,aE w _⟩
end
theorem Ni (B:Nat) (n:Nt) (w:World) (y O U I D Q:Value) (h:eJ B w n y O U I D Q) (u:0≤n.places) (Y:n.places≤2000000) (j:n.code.length≤4000) (r:n.nums.length≤4000) (X:n.ins.length+n.outs.length+n.keeps.length≤10000000) (J:¬jB n) :
    Calls Tryz.prog 21 #[.agg #[.int .i64 n.places,y,O,U,I,D,Q]] w fun e w'=>e=.returned (.iface 86 (.int .i64 4))/\Below w.heap.size w w':=by
 obtain ⟨adF,_,_,capF,rfl,-,-⟩:=h.f
 obtain ⟨adI,_,_,capI,rfl,-,-⟩:=h.i
 obtain ⟨adO,_,_,capO,rfl,-,-⟩:=h.o
 obtain ⟨adK,_,_,capK,rfl,-,-⟩:=h.k
 obtain ⟨adN,_,_,capN,rfl,-,-⟩:=h.m
 obtain ⟨adC,_,_,capC,rfl,-,-⟩:=h.c
 have l:Calls Tryz.prog 40 #[.agg #[.int .i64 n.places,.slice adF n.first.length capF,.slice adI n.ins.length capI,.slice adO n.outs.length capO,.slice adK n.keeps.length capK,.slice adN n.nums.length capN,.slice adC n.code.length capC],.func (.func 39) #[] #[.pointer (some ⟨w.heap.size,0,none⟩)]] (w.alloc (.cells #[.int .i64 n.places,.slice adF n.first.length capF,.slice adI n.ins.length capI,.slice adO n.outs.length capO,.slice adK n.keeps.length capK,.slice adN n.nums.length capN,.slice adC n.code.length capC] 26)) fun e w'=>e=.returned (.int .i64 (4:Int))/\Below (w.alloc (.cells #[.int .i64 n.places,.slice adF n.first.length capF,.slice adI n.ins.length capI,.slice adO n.outs.length capO,.slice adK n.keeps.length capK,.slice adN n.nums.length capN,.slice adC n.code.length capC] 26)).heap.size (w.alloc (.cells #[.int .i64 n.places,.slice adF n.first.length capF,.slice adI n.ins.length capI,.slice adO n.outs.length capO,.slice adK n.keeps.length capK,.slice adN n.nums.length capN,.slice adC n.code.length capC] 26)) w':=by
  by_cases hpl:4000<n.places
  ·exact I7 n w.heap.size _ adF adI adO adK adN adC capF capI capO capK capN capC hpl (by omega) (by omega)
  ·refine Y5 n w.heap.size _ adF adI adO adK adN adC capF capI capO capK capN capC u (by omega) j r ?_ X
   exact Classical.byContradiction fun Z=>J ⟨by omega,j,r,by omega⟩
 clear h u Y j r X J
 go_enter Tryz.func21,Tryz.ntmps21
 go_wp2_with (go_at_call 40;refine l.mono ?_;rintro e w1 ⟨rfl,s⟩)
 go_ret
 exact ⟨rfl,iF (aE w _) s⟩
end Nx
end
section
open Go.RowKit Px
namespace Ew
open Px.Em (Kd Vr eQ eR jP Rg cX)
open Nx (Nt Sp eJ)
def Bw (c:fZ):Option Nt:=match Em.uE c with
 | none=>none
 | some n=>if Nx.fY n=(0,-1) then some n else none
theorem pL {n:Nt}(h:Nx.fY n=(0,-1)):Nx.jB n:=by
 unfold Nx.fY at h
 by_cases hw:Nx.dD n=0
 ·unfold Nx.dD at hw
  by_cases h0:n.places<0\/4000<n.places\/4000<n.code.length\/4000<n.nums.length\/4000<n.ins.length+n.outs.length+n.keeps.length
  ·rw[if_pos h0] at hw;omega
  ·exact ⟨by omega,by omega,by omega,by omega⟩
 ·rw[if_neg hw] at h;injection h with h;exact absurd h hw
def aW2 (c:fZ) (w:World) (e:Ending) (w':World):Prop:=Below w.heap.size w w'/\((Bw c=none/\∃t v,e=.returned (.tuple #[.agg ZN,.iface t v]))\/∃(n:Nt) (vF vI vO vK vN vC:Value),Bw c=some n/\e=.returned (.tuple #[.agg #[.int .i64 n.places,vF,vI,vO,vK,vN,vC],.nilIface])/\rE (fun b=>w.heap.size≤b/\b<w'.heap.size) w' n vF vI vO vK vN vC/\wV n/\Nx.fY n=(0,-1))
theorem uU (h:Array Value) (W:World) (c:Nat) (j:Array Value) (v:Value) (hsz:j.size=7) (k:h[2]?.getD undef=.pointer (some ⟨c,0,none⟩)) (r:h[3]?.getD undef=v) (l:W.heap[c]?=some (.cells j 26 (0,0))) :
    (results Tryz.f19 h).run Tryz.prog W=.ok (.tuple #[.agg j,v]) W:=by
 simp[results,Tryz.results19,k,r,asAddr,xG hsz l]
theorem Pk {w2:World}{c:Nat}{a0 a1 y I a4 a5 J:Value}(hc:w2.heap[c]?=some (.cells ZN 26 (0,0))) {w3:World}(O:w3=((((((w2.setCell ⟨c,0,none⟩ a0).setCell ⟨c,1,none⟩ a1).setCell ⟨c,2,none⟩ y).setCell ⟨c,3,none⟩ I).setCell ⟨c,4,none⟩ a4).setCell ⟨c,5,none⟩ a5).setCell ⟨c,6,none⟩ J) :
    w3.heap[c]?=some (.cells #[a0,a1,y,I,a4,a5,J] 26 (0,0))/\(∀k,k≠c->w3.heap[k]?=w2.heap[k]?)/\(∀B a,Below B a w2->B≤c->Below B a w3)/\w3.heap.size=w2.heap.size:=by
 have U:=cH (l:=[.int .i64 0,.slice none 0 0,.slice none 0 0,.slice none 0 0,.slice none 0 0,.slice none 0 0,.slice none 0 0]) hc 0 a0
 have h1:=cH (l:=[a0,.slice none 0 0,.slice none 0 0,.slice none 0 0,.slice none 0 0,.slice none 0 0,.slice none 0 0]) U 1 a1
 have Q:=cH (l:=[a0,a1,.slice none 0 0,.slice none 0 0,.slice none 0 0,.slice none 0 0,.slice none 0 0]) h1 2 y
 have X:=cH (l:=[a0,a1,y,.slice none 0 0,.slice none 0 0,.slice none 0 0,.slice none 0 0]) Q 3 I
 have e:=cH (l:=[a0,a1,y,I,.slice none 0 0,.slice none 0 0,.slice none 0 0]) X 4 a4
 have h5:=cH (l:=[a0,a1,y,I,a4,.slice none 0 0,.slice none 0 0]) e 5 a5
 have Z:=cH (l:=[a0,a1,y,I,a4,a5,.slice none 0 0]) h5 6 J
 have D:∀(W:World) (j:Nat) (u:Value) (k:Nat),k≠c->(W.setCell ⟨c,j,none⟩ u).heap[k]?=W.heap[k]?:=fun W j u k Y=>Below.heap_setCell _ _ _ _ Y
 have bl:∀(B:Nat) (a W:World) (j:Nat) (u:Value),Below B a W->B≤c->Below B a (W.setCell ⟨c,j,none⟩ u):=fun B a W j u h hB=>h.setCell (p:=⟨c,j,none⟩) hB u
 have sz:∀(W:World) (j:Nat) (u:Value),(W.setCell ⟨c,j,none⟩ u).heap.size=W.heap.size:=fun W j u=>by simp[World.setCell]
 rw[O]
 refine ⟨Z,fun k s=>?_,fun B a hb r=>?_,?_⟩
 ·rw[D _ _ _ _ s,D _ _ _ _ s,D _ _ _ _ s,D _ _ _ _ s,D _ _ _ _ s,D _ _ _ _ s,D _ _ _ _ s]
 ·exact bl _ _ _ _ _ (bl _ _ _ _ _ (bl _ _ _ _ _ (bl _ _ _ _ _ (bl _ _ _ _ _ (bl _ _ _ _ _ (bl _ _ _ _ _ hb r) r) r) r) r) r) r
 ·rw[sz,sz,sz,sz,sz,sz,sz]
section
variable {A:Nat->Prop}{w:World}
theorem aI8 {c:fZ}{S:ByteArray}{a U:Option Addr}{n m n' m':Nat}(hC:gQ A w c (.agg #[.string S,.slice a n m,.slice U n' m'])) (hA:∀x,A x->x<w.heap.size) (af:Xj c) :
    Calls Tryz.prog 19 #[.agg #[.string S,.slice a n m,.slice U n' m']] w (aW2 c w):=by
 obtain ⟨s,aj⟩:∃s,s=(w.alloc (.cells #[.string S,.slice a n m,.slice U n' m'] 47)).alloc (.cells ZN 26):=⟨_,rfl⟩
 obtain ⟨U1,ac⟩:∃U1,U1=w.alloc (.cells #[.string S,.slice a n m,.slice U n' m'] 47):=⟨_,rfl⟩
 have s1:U1.heap.size=w.heap.size+1:=by rw[ac];simp
 have I:s=U1.alloc (.cells ZN 26):=by rw[ac];exact aj
 have s0:s.heap.size=w.heap.size+2:=by rw[I];simp[s1]
 have b1:Below w.heap.size w U1:=by rw[ac];exact aL _ _
 have b2:Below U1.heap.size U1 s:=by rw[I];exact aL _ _
 have x0:s.heap[w.heap.size]?=some (.cells #[.string S,.slice a n m,.slice U n' m'] 47 (0,0)):=aD b2 (by rw[ac];exact aX w _)
 have x1:s.heap[w.heap.size+1]?=some (.cells ZN 26 (0,0)):=by rw[<-s1,I];exact aX U1 _
 have ak:Below w.heap.size w s:=aQ b1 b2
 have cB:∀W,Below w.heap.size w W->gQ A W c (.agg #[.string S,.slice a n m,.slice U n' m']):=fun W hb=>by
  obtain ⟨p1,p2,p3,p4,p5,p6,p7,p8,p9⟩:=hC
  have kp:bB A A w W:=fun x hx hl=>⟨hx,hb.block x hl⟩
  exact ⟨p1,p2,p3,p4,p5,p6,p7,p8.carry kp,p9.carry kp (aM.carry kp 6)⟩
 have an:Calls Tryz.prog 37 #[.agg #[.string S,.slice a n m,.slice U n' m']] s fun e D=>e=.returned .nilIface/\Hid (Below s.heap.size s D):=(iU (cB s ak) af.run.nm).mono fun e D h=>by
  rw[af.run.ok] at h
  obtain ⟨hb,⟨_,rfl⟩|⟨_,h,_⟩|⟨_,_,_,h,_⟩⟩:=h
  ·exact ⟨rfl,hb⟩
  ·simp at h
  ·simp at h
 have HC:Hid ((∀W,Below w.heap.size w W->gQ A W c (.agg #[.string S,.slice a n m,.slice U n' m']))/\(∀x,A x->x<w.heap.size)/\Xj c):=⟨cB,hA,af⟩
 have HB:Hid (Below w.heap.size w s/\s.heap.size=w.heap.size+2/\s.heap[w.heap.size]?=some (.cells #[.string S,.slice a n m,.slice U n' m'] 47 (0,0))/\s.heap[w.heap.size+1]?=some (.cells ZN 26 (0,0))):=⟨ak,s0,x0,x1⟩
 have y0:=aF x0 0 (u:=.string S) rfl
 have y1:=aF x0 1 (u:=.slice a n m) rfl
 have y2:=aF x0 2 (u:=.slice U n' m') rfl
 clear hC hA af cB s1 I ac s0 b1 b2 x0 x1 ak
 go_enter Tryz.func19,Tryz.ntmps19
 go_upto_region 1 with fail
 rw[show (w.alloc (.cells #[.string S,.slice a n m,.slice U n' m'] 47)).alloc (.cells #[.int .i64 0,.slice none 0 0,.slice none 0 0,.slice none 0 0,.slice none 0 0,.slice none 0 0,.slice none 0 0] 26)=s from aj.symm]
 clear aj
 go_upto_region 4 with (go_at_call 37;refine an.mono ?_;rintro e w1 ⟨rfl,h1⟩)
 have ag:Below w.heap.size w w1:=aQ HB.out.1 h1.out
 have x1:=aD h1.out HB.out.2.2.2
 have y0:=aN h1.out y0
 have y1:=aN h1.out y1
 have y2:=aN h1.out y2
 have ah:=aG7 (HC.out.1 w1 ag) (fun x hx=>aO2 (HC.out.2.1 x hx) ag.size) HC.out.2.2
 have Z:Hid (Below w.heap.size w w1/\w.heap.size+2≤w1.heap.size/\w1.heap[w.heap.size+1]?=some (.cells ZN 26 (0,0))):=⟨ag,by have:=h1.out.size;have:=HB.out.2.1;omega,x1⟩
 clear an h1 ag x1
 cases h1:Em.uE c with
 | none=>
  have H1:Hid (Em.uE c=none):=h1
  clear h1
  have j:Calls Tryz.prog 38 #[.agg #[.string S,.slice a n m,.slice U n' m']] w1 fun e D=>e=.returned (.tuple #[.agg ZN,.iface 86 (.int .i64 4)])/\Hid (Below w1.heap.size w1 D):=ah.mono fun e D h=>by
   rw[H1.out] at h
   obtain ⟨hb,⟨_,rfl⟩|⟨_,_,_,_,_,_,_,h,_⟩⟩:=h
   ·exact ⟨rfl,hb⟩
   ·simp at h
  clear ah
  unfold ZN at j
  go_upto_region 5 with (go_at_call 38;refine j.mono ?_;rintro e w2 ⟨rfl,h2⟩)
  obtain ⟨V,hV⟩:∃V,V=w2.alloc (.cells #[.int .i64 0,.slice none 0 0,.slice none 0 0,.slice none 0 0,.slice none 0 0,.slice none 0 0,.slice none 0 0] 26):=⟨_,rfl⟩
  have l:Below w2.heap.size w2 V:=by rw[hV];exact aL _ _
  have u1:=aD l (aD h2.out Z.out.2.2)
  have r:Hid (Below w.heap.size w V/\V.heap[w.heap.size+1]?=some (.cells ZN 26 (0,0))):=⟨aQ (aQ Z.out.1 h2.out) l,u1⟩
  obtain ⟨r0,r1,r2,r3,r4,r5,r6⟩:=gJ u1
  have rf:∀o,V.frozen? ⟨w.heap.size+1,o,none⟩=false:=fun o=>aG u1 o
  rw[<-hV]
  clear hV l h2 j u1
  go_wp2_with fail
  obtain ⟨X,hX⟩:∃X,X=((((((V.setCell ⟨w.heap.size+1,0,none⟩ (.int .i64 0)).setCell ⟨w.heap.size+1,1,none⟩ (.slice none 0 0)).setCell ⟨w.heap.size+1,2,none⟩ (.slice none 0 0)).setCell ⟨w.heap.size+1,3,none⟩ (.slice none 0 0)).setCell ⟨w.heap.size+1,4,none⟩ (.slice none 0 0)).setCell ⟨w.heap.size+1,5,none⟩ (.slice none 0 0)).setCell ⟨w.heap.size+1,6,none⟩ (.slice none 0 0):=⟨_,rfl⟩
  rw[<-hX]
  obtain ⟨z0,z1,z2,z3⟩:=Pk r.out.2 hX
  clear hX
  refine aY7 (uU _ _ (w.heap.size+1) _ _ rfl rfl rfl z0) rfl ?_
  exact ⟨z2 _ _ r.out.1 (by omega),.inl ⟨by unfold Bw;rw[H1.out],_,_,rfl⟩⟩
 | some N=>
  have H1:Hid (Em.uE c=some N):=h1
  clear h1
  have j:Calls Tryz.prog 38 #[.agg #[.string S,.slice a n m,.slice U n' m']] w1 fun e D=>∃e1 l1 o1 Y l2 o2 e3 l3 o3 e4 l4 o4 J l5 Q e6 l6 O,e=.returned (.tuple #[.agg #[.int .i64 N.places,.slice e1 l1 o1,.slice Y l2 o2,.slice e3 l3 o3,.slice e4 l4 o4,.slice J l5 Q,.slice e6 l6 O],.nilIface])/\Hid (Below w1.heap.size w1 D/\rE (fun b=>w1.heap.size≤b/\b<D.heap.size) D N (.slice e1 l1 o1) (.slice Y l2 o2) (.slice e3 l3 o3) (.slice e4 l4 o4) (.slice J l5 Q) (.slice e6 l6 O)/\wV N):=ah.mono fun e D h=>by
   rw[H1.out] at h
   obtain ⟨hb,⟨h,_⟩|⟨nn,vF,vI,vO,vK,vN,vC,h,rfl,hN,hf⟩⟩:=h
   ·simp at h
   ·injection h with h
    subst h
    obtain ⟨e1,_,_,o1,rfl,_⟩:=id hN.f
    obtain ⟨Y,_,_,o2,rfl,_⟩:=id hN.i
    obtain ⟨e3,_,_,o3,rfl,_⟩:=id hN.o
    obtain ⟨e4,_,_,o4,rfl,_⟩:=id hN.k
    obtain ⟨J,_,_,Q,rfl,_⟩:=id hN.m
    obtain ⟨e6,_,_,O,rfl,_⟩:=id hN.c
    exact ⟨_,_,_,_,_,_,_,_,_,_,_,_,_,_,_,_,_,_,rfl,hb,hN,hf⟩
  obtain ⟨pl,ai⟩:∃pl,pl=N.places:=⟨_,rfl⟩
  rw[<-ai] at j
  have al:Hid (pl=N.places):=ai
  clear ah ai
  go_upto_region 5 with (go_at_call 38;refine j.mono ?_;rintro e w2 ⟨e1,l1,o1,Y,l2,o2,e3,l3,o3,e4,l4,o4,J,l5,Q,e6,l6,O,rfl,h2⟩)
  obtain ⟨q5,ad⟩:∃q5,q5=w2.heap.size:=⟨_,rfl⟩
  obtain ⟨V,hV⟩:∃V,V=w2.alloc (.cells #[.int .i64 pl,.slice e1 l1 o1,.slice Y l2 o2,.slice e3 l3 o3,.slice e4 l4 o4,.slice J l5 Q,.slice e6 l6 O] 26):=⟨_,rfl⟩
  have l:Below w2.heap.size w2 V:=by rw[hV];exact aL _ _
  have ae:V.heap[q5]?=some (.cells #[.int .i64 pl,.slice e1 l1 o1,.slice Y l2 o2,.slice e3 l3 o3,.slice e4 l4 o4,.slice J l5 Q,.slice e6 l6 O] 26 (0,0)):=by rw[hV,ad];exact aX w2 _
  have ab:rE (fun b=>w1.heap.size≤b/\b<V.heap.size) V N (.slice e1 l1 o1) (.slice Y l2 o2) (.slice e3 l3 o3) (.slice e4 l4 o4) (.slice J l5 Q) (.slice e6 l6 O):=h2.out.2.1.carry fun b hb hl=>⟨⟨hb.1,aO2 hb.2 l.size⟩,l.block b hl⟩
  have u1:=aD l (aD h2.out.1 Z.out.2.2)
  have r:Hid (Below w.heap.size w V/\V.heap[w.heap.size+1]?=some (.cells ZN 26 (0,0))/\wV N/\rE (fun b=>w1.heap.size≤b/\b<V.heap.size) V N (.slice e1 l1 o1) (.slice Y l2 o2) (.slice e3 l3 o3) (.slice e4 l4 o4) (.slice J l5 Q) (.slice e6 l6 O)/\V.heap[q5]?=some (.cells #[.int .i64 pl,.slice e1 l1 o1,.slice Y l2 o2,.slice e3 l3 o3,.slice e4 l4 o4,.slice J l5 Q,.slice e6 l6 O] 26 (0,0))):=⟨aQ (aQ Z.out.1 h2.out.1) l,u1,h2.out.2.2,ab,ae⟩
  obtain ⟨p0,p1,p2,p3,p4,p5,p6⟩:=gJ ae
  by_cases h2':Nx.fY N=(0,-1)
  ·have H2:Hid (Nx.fY N=(0,-1)):=h2'
   clear h2'
   have y:=(show Calls Tryz.prog 21 #[.agg #[.int .i64 pl,.slice e1 l1 o1,.slice Y l2 o2,.slice e3 l3 o3,.slice e4 l4 o4,.slice J l5 Q,.slice e6 l6 O]] V fun e D=>e=.returned .nilIface/\Hid (Below V.heap.size V D) from by
    have hv:=ab.netV (B:=V.heap.size) fun b hb=>hb.2
    rw[al.out]
    refine (Nx.iU V.heap.size N V _ _ _ _ _ _ hv (aN4 _) (pL H2.out)).mono fun e D h=>?_
    obtain ⟨v,rfl,he,hb⟩:=h
    rw[H2.out] at he
    rcases he with ⟨_,_,rfl⟩|⟨c1,_,_⟩|⟨c1,_⟩
    ·exact ⟨rfl,hb⟩
    ·exact absurd rfl c1
    ·exact absurd rfl c1)
   rw[<-hV,<-ad]
   clear hV ad l ae ab h2 j u1
   go_upto_region 9 with (go_at_call 21;refine y.mono ?_;rintro e w3 ⟨rfl,h3⟩)
   have u1:=aD h3.out r.out.2.1
   have am:=aD h3.out r.out.2.2.2.2
   have aa:Hid (Below w.heap.size w w3/\w3.heap[w.heap.size+1]?=some (.cells ZN 26 (0,0))/\rE (fun b=>w1.heap.size≤b/\b<w3.heap.size) w3 N (.slice e1 l1 o1) (.slice Y l2 o2) (.slice e3 l3 o3) (.slice e4 l4 o4) (.slice J l5 Q) (.slice e6 l6 O)):=⟨aQ r.out.1 h3.out,u1,r.out.2.2.2.1.carry fun b hb hl=>⟨⟨hb.1,aO2 hb.2 h3.out.size⟩,h3.out.block b hl⟩⟩
   obtain ⟨r0,r1,r2,r3,r4,r5,r6⟩:=gJ u1
   have rf:∀o,w3.frozen? ⟨w.heap.size+1,o,none⟩=false:=fun o=>aG u1 o
   obtain ⟨p0,p1,p2,p3,p4,p5,p6⟩:=gJ am
   clear y h3 u1 am
   go_wp2_with fail
   obtain ⟨X,hX⟩:∃X,X=((((((w3.setCell ⟨w.heap.size+1,0,none⟩ (.int .i64 pl)).setCell ⟨w.heap.size+1,1,none⟩ (.slice e1 l1 o1)).setCell ⟨w.heap.size+1,2,none⟩ (.slice Y l2 o2)).setCell ⟨w.heap.size+1,3,none⟩ (.slice e3 l3 o3)).setCell ⟨w.heap.size+1,4,none⟩ (.slice e4 l4 o4)).setCell ⟨w.heap.size+1,5,none⟩ (.slice J l5 Q)).setCell ⟨w.heap.size+1,6,none⟩ (.slice e6 l6 O):=⟨_,rfl⟩
   rw[<-hX]
   obtain ⟨z0,z1,z2,z3⟩:=Pk aa.out.2.1 hX
   clear hX
   refine aY7 (uU _ _ (w.heap.size+1) _ _ rfl rfl rfl z0) rfl ?_
   refine ⟨z2 _ _ aa.out.1 (by omega),.inr ⟨N,_,_,_,_,_,_,by unfold Bw;rw[H1.out];exact if_pos H2.out,by rw[<-al.out];rfl,aa.out.2.2.carry fun b hb hl=>⟨⟨?_,by rw[z3];exact hb.2⟩,z1 b ?_⟩,r.out.2.2.1,H2.out⟩⟩
   ·have:=Z.out.2.1;omega
   ·have:=Z.out.2.1;omega
  ·have H2:Hid (Nx.fY N≠(0,-1)):=h2'
   clear h2'
   have y:=(show Calls Tryz.prog 21 #[.agg #[.int .i64 pl,.slice e1 l1 o1,.slice Y l2 o2,.slice e3 l3 o3,.slice e4 l4 o4,.slice J l5 Q,.slice e6 l6 O]] V fun e D=>∃t v,e=.returned (.iface t v)/\Hid (Below V.heap.size V D) from by
    have hv:=ab.netV (B:=V.heap.size) fun b hb=>hb.2
    have hf:=h2.out.2.2
    rw[al.out]
    by_cases hs:Nx.jB N
    ·refine (Nx.iU V.heap.size N V _ _ _ _ _ _ hv (aN4 _) hs).mono fun e D h=>?_
     obtain ⟨v,rfl,he,hb⟩:=h
     rcases he with ⟨c1,c2,rfl⟩|⟨_,_,rfl⟩|⟨_,g,q,_,_,rfl,_⟩
     ·exact absurd (Prod.ext c1 c2) H2.out
     ·exact ⟨_,_,rfl,hb⟩
     ·exact ⟨_,_,rfl,hb⟩
    ·refine (Nx.Ni V.heap.size N V _ _ _ _ _ _ hv (by rw[hf.len];omega) (by rw[hf.len];have:=hf.few;omega) hf.code (by have:=hf.nums;have:=hf.code;omega) (by have:=hf.few;have:=hf.ins;have:=hf.outs;have:=hf.keeps;omega) hs).mono fun e D h=>?_
     obtain ⟨rfl,hb⟩:=h
     exact ⟨_,_,rfl,hb⟩)
   rw[<-hV,<-ad]
   clear hV ad l ae ab h2 j u1
   go_upto_region 7 with (go_at_call 21;refine y.mono ?_;rintro e w3 ⟨tt,tv,rfl,h3⟩)
   have u1:=aD h3.out r.out.2.1
   have aa:Hid (Below w.heap.size w w3/\w3.heap[w.heap.size+1]?=some (.cells ZN 26 (0,0))):=⟨aQ r.out.1 h3.out,u1⟩
   obtain ⟨r0,r1,r2,r3,r4,r5,r6⟩:=gJ u1
   have rf:∀o,w3.frozen? ⟨w.heap.size+1,o,none⟩=false:=fun o=>aG u1 o
   clear y h3 u1 p0 p1 p2 p3 p4 p5 p6
   go_wp2_with fail
   obtain ⟨X,hX⟩:∃X,X=((((((w3.setCell ⟨w.heap.size+1,0,none⟩ (.int .i64 0)).setCell ⟨w.heap.size+1,1,none⟩ (.slice none 0 0)).setCell ⟨w.heap.size+1,2,none⟩ (.slice none 0 0)).setCell ⟨w.heap.size+1,3,none⟩ (.slice none 0 0)).setCell ⟨w.heap.size+1,4,none⟩ (.slice none 0 0)).setCell ⟨w.heap.size+1,5,none⟩ (.slice none 0 0)).setCell ⟨w.heap.size+1,6,none⟩ (.slice none 0 0):=⟨_,rfl⟩
   rw[<-hX]
   obtain ⟨z0,z1,z2,z3⟩:=Pk aa.out.2 hX
   clear hX
   refine aY7 (uU _ _ (w.heap.size+1) _ _ rfl rfl rfl z0) rfl ?_
   exact ⟨z2 _ _ aa.out.1 (by omega),.inl ⟨by unfold Bw;rw[H1.out];exact if_neg H2.out,_,_,rfl⟩⟩
end
end Ew
end
end Go.Proofs.YthieaobjdpfcoaaGreatDoor
