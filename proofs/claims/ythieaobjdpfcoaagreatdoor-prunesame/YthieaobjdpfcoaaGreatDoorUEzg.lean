import Derived.Test.YthieaobjdpfcoaaGreatDoorUEzf0
import Derived.Test.YthieaobjdpfcoaaGreatDoorUNtC
import Derived.Test.YthieaobjdpfcoaaGreatDoorUPcatch
set_option maxRecDepth 100000
set_option maxHeartbeats 16000000
namespace Go.Proofs.YthieaobjdpfcoaaGreatDoor
section
open Go.RowKit Px
namespace Ew
open Px.Em (Kd Vr eQ eR jP Rg cX)
open Nx (Nt Sp)
structure wV (n:Nt):Prop where
 len:n.places=n.first.length
 few:n.first.length≤1004000
 code:n.code.length≤4000
 keeps:n.keeps.length≤n.first.length
 ins:n.ins.length≤n.first.length
 outs:n.outs.length≤n.first.length
 nums:n.nums.length≤n.code.length
 nf:∀x∈n.first,jF x
 nn:∀x∈n.nums,jF x
theorem rQ.nt {E:Nat}{ns:List bE}{k:Kd}(h:rQ E ns k):wV k.net:=⟨h.len,h.few,h.code,h.keeps,h.ins,h.outs,h.nums,h.nf,h.nn⟩
def aV9 (w:World) (o:Option Nt) (e:Ending) (w':World):Prop:=Below w.heap.size w w'/\((o=none/\e=.returned (.tuple #[.agg ZN,.iface 86 (.int .i64 4)]))\/∃(n:Nt) (vF vI vO vK vN vC:Value),o=some n/\e=.returned (.tuple #[.agg #[.int .i64 n.places,vF,vI,vO,vK,vN,vC],.nilIface])/\rE (fun b=>w.heap.size≤b/\b<w'.heap.size) w' n vF vI vO vK vN vC/\wV n)
theorem mkV (M:Int) (w:World):(Instr.makeMap 132 (some (.int .i64 M))).run Tryz.prog w=.ok (.map (some w.heap.size)) (w.alloc (.map #[] 0)):=by kernel_rfl
theorem mkN (w:World):(Instr.makeMap 133 none).run Tryz.prog w=.ok (.map (some w.heap.size)) (w.alloc (.map #[] 0)):=by kernel_rfl
theorem Dd (w:World) (O Q U:Value):∃W0 W1,W0=((w.alloc (.cells #[O,Q,U] 47)).alloc (.cells ZN 26)).alloc (.cells #[.nilIface] 33)/\
    W1=((W0.alloc (.map #[] 0)).alloc (.map #[] 0)).alloc (.cells #[.int .i64 0,.slice none 0 0,.slice none 0 0,.slice none 0 0,.slice none 0 0,.slice none 0 0,.slice none 0 0,.map (some (w.heap.size+3)),.map (some (w.heap.size+4))] 135)/\
    Below w.heap.size w W0/\W0.heap.size=w.heap.size+3/\Below W0.heap.size W0 W1/\W1.heap.size=w.heap.size+6/\W0.heap[w.heap.size]?=some (.cells #[O,Q,U] 47 (0,0))/\W0.heap[w.heap.size+1]?=some (.cells ZN 26 (0,0))/\W0.heap[w.heap.size+2]?=some (.cells #[.nilIface] 33 (0,0))/\
    W1.heap[w.heap.size+5]?=some (.cells #[.int .i64 0,.slice none 0 0,.slice none 0 0,.slice none 0 0,.slice none 0 0,.slice none 0 0,.slice none 0 0,.map (some (w.heap.size+3)),.map (some (w.heap.size+4))] 135 (0,0))/\Gm.Mp Tryz.prog 9 W1 (w.heap.size+3) 0 (fun _=>none)/\Gm.Mp Tryz.prog 2 W1 (w.heap.size+4) 0 (fun _=>none):=by
 obtain ⟨u,c⟩:∃u,u=w.alloc (.cells #[O,Q,U] 47):=⟨_,rfl⟩
 obtain ⟨D,k⟩:∃D,D=u.alloc (.cells ZN 26):=⟨_,rfl⟩
 obtain ⟨r,h⟩:∃r,r=D.alloc (.cells #[.nilIface] 33):=⟨_,rfl⟩
 obtain ⟨I,j⟩:∃I,I=r.alloc (.map #[] 0):=⟨_,rfl⟩
 obtain ⟨s,y⟩:∃s,s=I.alloc (.map #[] 0):=⟨_,rfl⟩
 obtain ⟨J,l⟩:∃J,J=s.alloc (.cells #[.int .i64 0,.slice none 0 0,.slice none 0 0,.slice none 0 0,.slice none 0 0,.slice none 0 0,.slice none 0 0,.map (some (w.heap.size+3)),.map (some (w.heap.size+4))] 135):=⟨_,rfl⟩
 have e:u.heap.size=w.heap.size+1:=by rw[c];simp
 have s2:D.heap.size=w.heap.size+2:=by rw[k];simp[e]
 have Y:r.heap.size=w.heap.size+3:=by rw[h];simp[s2]
 have s4:I.heap.size=w.heap.size+4:=by rw[j];simp[Y]
 have s5:s.heap.size=w.heap.size+5:=by rw[y];simp[s4]
 have s6:J.heap.size=w.heap.size+6:=by rw[l];simp[s5]
 have b1:Below w.heap.size w u:=by rw[c];exact aC _ _
 have Z:Below u.heap.size u D:=by rw[k];exact aC _ _
 have b3:Below D.heap.size D r:=by rw[h];exact aC _ _
 have b4:Below r.heap.size r I:=by rw[j];exact aC _ _
 have b5:Below I.heap.size I s:=by rw[y];exact aC _ _
 have X:Below s.heap.size s J:=by rw[l];exact aC _ _
 have n1:u.heap[w.heap.size]?=some (.cells #[O,Q,U] 47 (0,0)):=by rw[c];exact aX w _
 have n2:D.heap[w.heap.size+1]?=some (.cells ZN 26 (0,0)):=by rw[<-e,k];exact aX u _
 have n3:r.heap[w.heap.size+2]?=some (.cells #[.nilIface] 33 (0,0)):=by rw[<-s2,h];exact aX D _
 have n4:Gm.Mp Tryz.prog 9 I (w.heap.size+3) 0 (fun _=>none):=by rw[<-Y,j];exact Gm.Mp.made _ _ _
 have n5:Gm.Mp Tryz.prog 2 s (w.heap.size+4) 0 (fun _=>none):=by rw[<-s4,y];exact Gm.Mp.made _ _ _
 have n6:J.heap[w.heap.size+5]?=some (.cells #[.int .i64 0,.slice none 0 0,.slice none 0 0,.slice none 0 0,.slice none 0 0,.slice none 0 0,.slice none 0 0,.map (some (w.heap.size+3)),.map (some (w.heap.size+4))] 135 (0,0)):=by rw[<-s5,l];exact aX s _
 refine ⟨r,J,by rw[h,k,c],by rw[l,y,j],aQ (aQ b1 Z) b3,Y,aQ (aQ b4 b5) X,s6,aD b3 (aD Z n1),aD b3 n2,n3,n6,n4.keep ((X.block _ (by omega)).trans (b5.block _ (by omega))),n5.keep (X.block _ (by omega))⟩
section
variable {A:Nat->Prop}{w:World}
theorem Jf {c:fZ}{S:ByteArray}{a a':Option Addr}{n m n' m':Nat}(hC:gQ A w c (.agg #[.string S,.slice a n m,.slice a' n' m'])) (hA:∀x,A x->x<w.heap.size) (ab:EmC c) :
    Calls Tryz.prog 38 #[.agg #[.string S,.slice a n m,.slice a' n' m']] w (aV9 w (Em.uE c)):=by
 obtain ⟨k1,h1⟩:=lX c.vars Em.kd0
 have ca:∀(fn:Fn) (first cap:Array Value) (w:World),(Instr.makeFunc fn first cap).run Tryz.prog w=.ok (.func fn first cap) w:=fun _ _ _ _=>rfl
 have bv:=mkV
 have bw:=mkN
 obtain ⟨a0,n0,m0,bo,br,bq,O,hv,hg⟩:=hC
 have q2:Value.slice a n m=.slice a0 n0 m0:=by injection O with O;injection O with O;injection O with _ O;injection O
 have q3:Value.slice a' n' m'=.slice bo br bq:=by injection O with O;injection O with O;injection O with _ O;injection O with _ O;injection O
 rw[<-q2] at hv
 rw[<-q3] at hg
 obtain ⟨nl,am⟩:∃nl,nl=c.vars.length:=⟨_,rfl⟩
 have az:=ab.few
 have aj:c.vars.length≤100000:=by omega
 have bj:c.regions.length≤100000:=by have:=xZ (f:=iG 6) (l:=c.regions) (fun r _=>by show 1≤1+_;omega);omega
 have bk:∀x∈c.vars,x.name∈cG c.vars:=fun x hx=>List.mem_map_of_mem hx
 have af:(cG c.vars).length=nl:=by rw[am];simp[cG]
 obtain ⟨W0,k,bh,bb,au,bu,aa,bc,x0,x1,x2,y5,y3,y4⟩:=Dd w (.string S) (.slice a n m) (.slice a' n' m')
 have ac:=aE2 (n:=nl) af (by omega) (by omega) (by omega) y5 y3 y4
 have av:bB A A w k:=fun x hx hl=>⟨hx,(aQ au aa).block x hl⟩
 obtain ⟨s,X⟩:∃s:Nat->Prop,s=fun b=>b=w.heap.size+3\/b=w.heap.size+4\/b=w.heap.size+5:=⟨_,rfl⟩
 rw[<-X] at ac
 have ay:Ro A s k:=fun x hx=>⟨by have:=hA x hx;omega,fun hp=>by rw[X] at hp;have:=hA x hx;omega⟩
 have bn:∀b,s b->w.heap.size+3≤b:=fun b hb=>by rw[X] at hb;omega
 have ag:=Bz (hv.carry av) ab.run.run.vn ab.run.n64 bk aj (by omega) ac (by show 0+(cG c.vars).length≤0+nl;omega) ay
 have c1:W0.cell? ⟨w.heap.size,1,none⟩=some (.slice a n m):=aA x0 1 rfl
 have u1:=(aD aa x1)
 have u2:=(aD aa x2)
 have u0:=(aD aa x0)
 have d1:k.cell? ⟨w.heap.size,1,none⟩=some (.slice a n m):=aA u0 1 rfl
 have D:Hid (EmC c/\mJ A w c.vars (.slice a n m)/\gP A w (aM A w 6) c.regions (.slice a' n' m')/\Ro A s k/\(∀b,s b->w.heap.size+3≤b)/\bB A A w k/\nl+nl+1+(c.regions.map (iG 6)).sum<1000000/\c.vars.length≤100000/\c.regions.length≤100000/\nl=c.vars.length/\eK nl (cG c.vars) s k (w.heap.size+5) Em.kd0):=⟨ab,hv,hg,ay,bn,av,by omega,aj,bj,am,ac⟩
 have j:Hid (Below w.heap.size w k/\k.heap.size=w.heap.size+6/\k.heap[w.heap.size]?=some (.cells #[.string S,.slice a n m,.slice a' n' m'] 47 (0,0))/\k.heap[w.heap.size+1]?=some (.cells ZN 26 (0,0))/\k.heap[w.heap.size+2]?=some (.cells #[.nilIface] 33 (0,0))/\¬s w.heap.size/\¬s (w.heap.size+1)/\¬s (w.heap.size+2)):=⟨aQ au aa,bc,u0,u1,u2,by rw[X];omega,by rw[X];omega,by rw[X];omega⟩
 have H1:Hid (Em.dR c.vars Em.kd0=some ((),k1)):=h1
 clear ab az aj bj bk am af hv hg ay bn av ac X hA h1 O q2 q3 u0 u1 u2 x1 x2 y3 y4 y5 x0
 go_enter_defers Tryz.func38,Tryz.ntmps38
 go_upto_region 2 with fail
 rw[show ((w.alloc (.cells #[.string S,.slice a n m,.slice a' n' m'] 47)).alloc (.cells #[.int .i64 0,.slice none 0 0,.slice none 0 0,.slice none 0 0,.slice none 0 0,.slice none 0 0,.slice none 0 0] 26)).alloc (.cells #[.nilIface] 33)=W0 from bh.symm]
 rw[show w.heap.size+1+1=w.heap.size+2 from rfl]
 clear bh au
 go_upto_region 3 with fail
 rw[show w.heap.size+3+1=w.heap.size+4 from rfl,show w.heap.size+4+1=w.heap.size+5 from rfl]
 rw[show (((W0.alloc (.map #[] 0)).alloc (.map #[] 0)).alloc (.cells #[.int .i64 0,.slice none 0 0,.slice none 0 0,.slice none 0 0,.slice none 0 0,.slice none 0 0,.slice none 0 0,.map (some (w.heap.size+3)),.map (some (w.heap.size+4))] 135))=k from bb.symm]
 clear bb aa bu bc c1
 go_upto_region 4 with (go_at_call 70;refine ag.mono ?_;rintro e w2 ⟨rfl,h2⟩)
 obtain ⟨kx,ba,A2⟩:=h2.out
 obtain rfl:kx=k1:=by have:=H1.out;rw[ba] at this;injection this with this;injection this
 have u0:=A2.2.1.heap j.out.2.2.1 j.out.2.2.2.2.2.1
 have d2:w2.cell? ⟨w.heap.size,2,none⟩=some (.slice a' n' m'):=aA u0 2 rfl
 have al:bB A A w w2:=D.out.2.2.2.2.2.1.trans (A2.keep D.out.2.2.2.1) j.out.1.size
 have I:=xU (D.out.2.2.1.carry al (aM.carry al 6)) (fun l hl=>⟨D.out.1.lay l hl,D.out.1.run.run.st l hl,D.out.1.tm l hl⟩) (by rw[<-D.out.2.2.2.2.2.2.2.2.2.1];exact D.out.2.2.2.2.2.2.1) D.out.2.2.2.2.2.2.2.2.1 A2.1 (A2.ro D.out.2.2.2.1)
 have Z:Hid (At (nl+c.vars.length) (cG c.vars) s (w.heap.size+5) k Em.kd0 w2 kx):=A2
 have HP:Hid (∀b,s b->b<k.heap.size):=D.out.2.2.2.2.2.2.2.2.2.2.2.2
 clear ag h2 ba A2 u0 al d1
 cases h2:Em.tick c.regions kx with
 | none=>
  have H2:Hid (Em.tick c.regions kx=none):=h2
  clear h2
  have ht:Calls Tryz.prog 71 #[.pointer (some ⟨w.heap.size+5,0,none⟩),.slice a' n' m'] w2 fun e w'=>e=Vl/\Hid (bM (Up s k w2) w2 w'):=I.mono fun e w' h=>by
   rcases h with ⟨rfl,_,h⟩|⟨_,_,_,h,_⟩
   ·exact ⟨rfl,h⟩
   ·rw[Hid,H2.out] at h;exact absurd h (by simp)
  clear I
  go_wp2_with (go_at_call 71;refine ht.mono ?_;rintro e w3 ⟨rfl,h3⟩)
  have HF:Hid (bM s k w3):=Z.out.2.1.up h3.out
  have u1:=HF.out.heap j.out.2.2.2.1 j.out.2.2.2.2.2.2.1
  have u2:=HF.out.heap j.out.2.2.2.2.1 j.out.2.2.2.2.2.2.2
  have ar:Below w.heap.size w w3:=j.out.1.trans (HF.out.below (by have:=j.out.2.1;omega) fun b hb=>by have:=D.out.2.2.2.2.1 b hb;omega)
  refine leaves_cons (f:=69) (args:=#[.pointer (some ⟨w.heap.size+1,0,none⟩),.pointer (some ⟨w.heap.size+2,0,none⟩)]) (by simp) (by simp[go_sem]) ?_
  refine (rG (w.heap.size+1) (w.heap.size+2) w3 [] (aA u1 0 rfl) (fun o h1 h6=>by
   obtain rfl|rfl|rfl|rfl|rfl|rfl:o=1\/o=2\/o=3\/o=4\/o=5\/o=6:=by omega
   all_goals exact aA u1 _ rfl) (fun o=>aG u1 o) (aA u2 0 rfl) (aG u2 0) (by omega)).mono ?_
  rintro e u' be ⟨rfl,rfl,hw⟩
  obtain ⟨z0,z1,z2,z3⟩:=aA9 u1 u2 (by omega) hw
  exact ⟨_,yI _ _ _ _ _ _ rfl rfl rfl z0 z1,z3 _ _ ar (by omega) (by omega),.inl ⟨by rw[uD H1.out,aH H2.out];rfl,rfl⟩⟩
 | some x=>
  obtain ⟨⟨⟩,k2⟩:=x
  have H2:Hid (Em.tick c.regions kx=some ((),k2)):=h2
  clear h2
  have ht:Calls Tryz.prog 71 #[.pointer (some ⟨w.heap.size+5,0,none⟩),.slice a' n' m'] w2 fun e w'=>e=.returned (.tuple #[])/\Hid (At (nl+c.vars.length+1+(c.regions.map (iG 6)).sum) (cG c.vars) (Up s k w2) (w.heap.size+5) w2 kx w' k2):=I.mono fun e w' h=>by
   rcases h with ⟨_,h,_⟩|⟨_,_,rfl,h,h'⟩
   ·rw[Hid,H2.out] at h;exact absurd h (by simp)
   ·rw[Hid,H2.out] at h
    injection h with h
    injection h with _ h
    subst h
    exact ⟨rfl,h'⟩
  clear I
  go_upto_region 5 with (go_at_call 71;refine ht.mono ?_;rintro e w3 ⟨rfl,h3⟩)
  have f3:bM s k w3:=Z.out.2.1.up h3.out.2.1
  have u0:=f3.heap j.out.2.2.1 j.out.2.2.2.2.2.1
  have d3:w3.cell? ⟨w.heap.size,1,none⟩=some (.slice a n m):=aA u0 1 rfl
  have bm:bB A A w w3:=D.out.2.2.2.2.2.1.trans (D.out.2.2.2.1.keep f3) j.out.1.size
  have bf:=h3.out.ro (Z.out.ro D.out.2.2.2.1)
  have Y:=K8 (D.out.2.1.carry bm) D.out.1.run.run.vn D.out.2.2.2.2.2.2.2.1 h3.out.1 bf
  have ad:Hid (bM s k w3/\At (nl+c.vars.length+1+(c.regions.map (iG 6)).sum) (cG c.vars) (Up s k w2) (w.heap.size+5) w2 kx w3 k2):=⟨f3,h3.out⟩
  clear ht h3 f3 u0 bm bf d2
  cases h3:Em.dN c.vars k2 with
  | none=>
   have H3:Hid (Em.dN c.vars k2=none):=h3
   clear h3
   have ht:Calls Tryz.prog 72 #[.pointer (some ⟨w.heap.size+5,0,none⟩),.slice a n m] w3 fun e w'=>e=Vl/\Hid (bM (Up (Up s k w2) w2 w3) w3 w'):=Y.mono fun e w' h=>by
    rcases h with ⟨rfl,_,h⟩|⟨_,_,_,h,_⟩
    ·exact ⟨rfl,h⟩
    ·rw[Hid,H3.out] at h;exact absurd h (by simp)
   clear Y
   go_wp2_with (go_at_call 72;refine ht.mono ?_;rintro e w4 ⟨rfl,h4⟩)
   have HF:Hid (bM s k w4):=Z.out.2.1.up (ad.out.2.2.1.up h4.out)
   have u1:=HF.out.heap j.out.2.2.2.1 j.out.2.2.2.2.2.2.1
   have u2:=HF.out.heap j.out.2.2.2.2.1 j.out.2.2.2.2.2.2.2
   have ar:Below w.heap.size w w4:=j.out.1.trans (HF.out.below (by have:=j.out.2.1;omega) fun b hb=>by have:=D.out.2.2.2.2.1 b hb;omega)
   refine leaves_cons (f:=69) (args:=#[.pointer (some ⟨w.heap.size+1,0,none⟩),.pointer (some ⟨w.heap.size+2,0,none⟩)]) (by simp) (by simp[go_sem]) ?_
   refine (rG (w.heap.size+1) (w.heap.size+2) w4 [] (aA u1 0 rfl) (fun o h1 h6=>by
    obtain rfl|rfl|rfl|rfl|rfl|rfl:o=1\/o=2\/o=3\/o=4\/o=5\/o=6:=by omega
    all_goals exact aA u1 _ rfl) (fun o=>aG u1 o) (aA u2 0 rfl) (aG u2 0) (by omega)).mono ?_
   rintro e u' be ⟨rfl,rfl,hw⟩
   obtain ⟨z0,z1,z2,z3⟩:=aA9 u1 u2 (by omega) hw
   exact ⟨_,yI _ _ _ _ _ _ rfl rfl rfl z0 z1,z3 _ _ ar (by omega) (by omega),.inl ⟨by rw[uD H1.out,bind_some H2.out,H3.out];rfl,rfl⟩⟩
  | some y=>
   obtain ⟨⟨⟩,k3⟩:=y
   have H3:Hid (Em.dN c.vars k2=some ((),k3)):=h3
   clear h3
   have ht:Calls Tryz.prog 72 #[.pointer (some ⟨w.heap.size+5,0,none⟩),.slice a n m] w3 fun e w'=>e=.returned (.tuple #[])/\Hid (At (nl+c.vars.length+1+(c.regions.map (iG 6)).sum) (cG c.vars) (Up (Up s k w2) w2 w3) (w.heap.size+5) w3 k2 w' k3):=Y.mono fun e w' h=>by
    rcases h with ⟨_,h,_⟩|⟨_,_,rfl,h,h'⟩
    ·rw[Hid,H3.out] at h;exact absurd h (by simp)
    ·rw[Hid,H3.out] at h
     injection h with h
     injection h with _ h
     subst h
     exact ⟨rfl,h'⟩
   clear Y
   go_upto_region 6 with (go_at_call 72;refine ht.mono ?_;rintro e w4 ⟨rfl,h4⟩)
   have f4:bM s k w4:=Z.out.2.1.up (ad.out.2.2.1.up h4.out.2.1)
   have u1:=f4.heap j.out.2.2.2.1 j.out.2.2.2.2.2.2.1
   have u2:=f4.heap j.out.2.2.2.2.1 j.out.2.2.2.2.2.2.2
   have an:Below w.heap.size w w4:=j.out.1.trans (f4.below (by have:=j.out.2.1;omega) fun b hb=>by have:=D.out.2.2.2.2.1 b hb;omega)
   obtain ⟨⟨J,U⟩,hF,bi⟩:=h4.out.1
   have HV:Hid (CM (Up (Up (Up s k w2) w2 w3) w3 w4) w4 (w.heap.size+5) k3 J/\wV k3.net/\(∀g,Up (Up (Up s k w2) w2 w3) w3 w4 g->g≠w.heap.size+1/\g≠w.heap.size+2/\w.heap.size≤g/\g<w4.heap.size)):=⟨U,hF.nt,fun g hg=>by
    have s4:=bi g hg
    have s5:=an.size
    have s6:=ad.out.1.size
    have s1:=j.out.2.1;have s2:=Z.out.2.1.size;have s3:=ad.out.2.2.1.size
    rcases hg with ((h|h)|h)|h
    ·exact ⟨fun e=>j.out.2.2.2.2.2.2.1 (e▸h),fun e=>j.out.2.2.2.2.2.2.2 (e▸h),by have:=D.out.2.2.2.2.1 g h;omega,s4⟩
    all_goals exact ⟨by omega,by omega,by omega,s4⟩⟩
   have g0:=U.cell 0 (u:=.int .i64 k3.net.places) rfl
   have g1:=U.cell 1 (u:=J.v 1) rfl
   have g2:=U.cell 2 (u:=J.v 2) rfl
   have g3:=U.cell 3 (u:=J.v 3) rfl
   have g4:=U.cell 4 (u:=J.v 4) rfl
   have g5:=U.cell 5 (u:=J.v 5) rfl
   have g6:=U.cell 6 (u:=J.v 6) rfl
   obtain ⟨p3,ax⟩:∃p3,p3=k3.net.places:=⟨_,rfl⟩
   rw[<-ax] at g0
   obtain ⟨r0,r1,r2,r3,r4,r5,r6⟩:=gJ u1
   have rf:∀o,w4.frozen? ⟨w.heap.size+1,o,none⟩=false:=fun o=>aG u1 o
   have re:=aA u2 0 (u:=.nilIface) rfl
   have bz:=aG u2 0
   have HU:Hid (w4.heap[w.heap.size+1]?=some (.cells ZN 26 (0,0))/\w4.heap[w.heap.size+2]?=some (.cells #[.nilIface] 33 (0,0))/\Below w.heap.size w w4/\p3=k3.net.places):=⟨u1,u2,an,ax⟩
   obtain ⟨e1,l1,o1,ao⟩:∃e l o,J.v 1=.slice e l o:=by obtain ⟨e,o,h⟩:=aP (U.row 1 (by omega) (by omega));exact ⟨e,_,o,h⟩
   obtain ⟨e2,l2,o2,ai⟩:∃e l o,J.v 2=.slice e l o:=by obtain ⟨e,o,h⟩:=aP (U.row 2 (by omega) (by omega));exact ⟨e,_,o,h⟩
   obtain ⟨e3,l3,o3,ap⟩:∃e l o,J.v 3=.slice e l o:=by obtain ⟨e,o,h⟩:=aP (U.row 3 (by omega) (by omega));exact ⟨e,_,o,h⟩
   obtain ⟨e4,l4,o4,ak⟩:∃e l o,J.v 4=.slice e l o:=by obtain ⟨e,o,h⟩:=aP (U.row 4 (by omega) (by omega));exact ⟨e,_,o,h⟩
   obtain ⟨e5,l5,o5,aw⟩:∃e l o,J.v 5=.slice e l o:=by obtain ⟨e,o,h⟩:=aP (U.row 5 (by omega) (by omega));exact ⟨e,_,o,h⟩
   obtain ⟨e6,l6,o6,ah⟩:∃e l o,J.v 6=.slice e l o:=by obtain ⟨e,o,h⟩:=aP (U.row 6 (by omega) (by omega));exact ⟨e,_,o,h⟩
   have bp:Hid (J.v 1=.slice e1 l1 o1/\J.v 2=.slice e2 l2 o2/\J.v 3=.slice e3 l3 o3/\J.v 4=.slice e4 l4 o4/\J.v 5=.slice e5 l5 o5/\J.v 6=.slice e6 l6 o6):=⟨ao,ai,ap,ak,aw,ah⟩
   rw[ao] at g1
   rw[ai] at g2
   rw[ap] at g3
   rw[ak] at g4
   rw[aw] at g5
   rw[ah] at g6
   clear ht h4 f4 u1 u2 an U hF bi ax ao ai ap ak aw ah d3
   go_wp2_with fail
   obtain ⟨W5,ae⟩:∃W5,W5=(((((((w4.setCell ⟨w.heap.size+1,0,none⟩ (.int .i64 p3)).setCell ⟨w.heap.size+1,1,none⟩ (.slice e1 l1 o1)).setCell ⟨w.heap.size+1,2,none⟩ (.slice e2 l2 o2)).setCell ⟨w.heap.size+1,3,none⟩ (.slice e3 l3 o3)).setCell ⟨w.heap.size+1,4,none⟩ (.slice e4 l4 o4)).setCell ⟨w.heap.size+1,5,none⟩ (.slice e5 l5 o5)).setCell ⟨w.heap.size+1,6,none⟩ (.slice e6 l6 o6)).setCell ⟨w.heap.size+2,0,none⟩ .nilIface:=⟨_,rfl⟩
   rw[<-ae]
   obtain ⟨z0,z1,z2,z3⟩:=aA9 (v:=.nilIface) HU.out.1 HU.out.2.1 (by omega) ae
   have zS:W5.heap.size=w4.heap.size:=by rw[ae];simp only[World.setCell,Array.size_modify]
   clear ae
   have hN:=(HV.out.1.carry (Q:=fun b=>w.heap.size≤b/\b<W5.heap.size) (w':=W5) fun b hb hl=>⟨⟨(HV.out.2.2 b hb).2.2.1,by have:=(HV.out.2.2 b hb).2.2.2;rw[zS];exact this⟩,z2 b (HV.out.2.2 b hb).1 (HV.out.2.2 b hb).2.1⟩).netA
   obtain ⟨q1,q2,q3,q4,q5,q6⟩:=bp.out
   rw[q1,q2,q3,q4,q5,q6] at hN
   refine leaves_cons (f:=69) (args:=#[.pointer (some ⟨w.heap.size+1,0,none⟩),.pointer (some ⟨w.heap.size+2,0,none⟩)]) (by simp) (by simp[go_sem]) ?_
   refine (Y7 ⟨w.heap.size+1,0,none⟩ ⟨w.heap.size+2,0,none⟩ _).mono ?_
   rintro e u' be ⟨rfl,rfl,rfl⟩
   exact ⟨_,yI _ _ _ _ _ _ rfl rfl rfl z0 z1,z3 _ _ HU.out.2.2.1 (by omega) (by omega),.inr ⟨k3.net,_,_,_,_,_,_,by rw[uD H1.out,bind_some H2.out,H3.out];rfl,by rw[<-HU.out.2.2.2],hN,HV.out.2.1⟩⟩
end
end Ew
end
section
open Go.RowKit
namespace Nx
section
variable (n:Nt) (bn:Nat) (w:World) (adF adI adO adK adN adC:Option Addr) (capF capI capO capK capN capC:Nat)
theorem I7 (c:4000<n.places) (j:n.places≤10000000) (h:n.ins.length+n.outs.length+n.keeps.length≤10000000) :
    Calls Tryz.prog 40 #[.agg #[.int .i64 n.places,.slice adF n.first.length capF,.slice adI n.ins.length capI,.slice adO n.outs.length capO,.slice adK n.keeps.length capK,.slice adN n.nums.length capN,.slice adC n.code.length capC],.func (.func 39) #[] #[.pointer (some ⟨bn,0,none⟩)]] w fun e w'=>e=.returned (.int .i64 (4:Int))/\Below w.heap.size w w':=by
 have k:=Ba
 go_enter Tryz.func40,Tryz.ntmps40
 go_wp2
 refine wp_loop_rounds 5 ?_
 rw[rounds_succ]
 go_wp2
 go_ret
 exact ⟨rfl,aE w _⟩
theorem Y5 (s:0≤n.places) (l:n.places≤4000) (u:n.code.length≤4000) (y:n.nums.length≤4000) (j:4000<n.ins.length+n.outs.length+n.keeps.length) (k:n.ins.length+n.outs.length+n.keeps.length≤10000000) :
    Calls Tryz.prog 40 #[.agg #[.int .i64 n.places,.slice adF n.first.length capF,.slice adI n.ins.length capI,.slice adO n.outs.length capO,.slice adK n.keeps.length capK,.slice adN n.nums.length capN,.slice adC n.code.length capC],.func (.func 39) #[] #[.pointer (some ⟨bn,0,none⟩)]] w fun e w'=>e=.returned (.int .i64 (4:Int))/\Below w.heap.size w w':=by
 have D:=Ba;have c:=Fq;have h:=Fp;have r:=Fo
 go_enter Tryz.func40,Tryz.ntmps40
 go_wp2
 refine wp_loop_rounds 5 ?_
 rw[rounds_succ]
 go_wp2
 rw[rounds_succ]
 go_wp2
 rw[rounds_succ]
 go_wp2
 rw[rounds_succ]
 go_wp2
 go_ret
 exact ⟨rfl,aE w _⟩
end
theorem Ni (B:Nat) (n:Nt) (w:World) (D O u J y I:Value) (h:eJ B w n D O u J y I) (X:0≤n.places) (Y:n.places≤2000000) (r:n.code.length≤4000) (l:n.nums.length≤4000) (Q:n.ins.length+n.outs.length+n.keeps.length≤10000000) (U:¬jB n) :
    Calls Tryz.prog 21 #[.agg #[.int .i64 n.places,D,O,u,J,y,I]] w fun e w'=>e=.returned (.iface 86 (.int .i64 4))/\Below w.heap.size w w':=by
 obtain ⟨adF,_,_,capF,rfl,-,-⟩:=h.f
 obtain ⟨adI,_,_,capI,rfl,-,-⟩:=h.i
 obtain ⟨adO,_,_,capO,rfl,-,-⟩:=h.o
 obtain ⟨adK,_,_,capK,rfl,-,-⟩:=h.k
 obtain ⟨adN,_,_,capN,rfl,-,-⟩:=h.m
 obtain ⟨adC,_,_,capC,rfl,-,-⟩:=h.c
 have j:Calls Tryz.prog 40 #[.agg #[.int .i64 n.places,.slice adF n.first.length capF,.slice adI n.ins.length capI,.slice adO n.outs.length capO,.slice adK n.keeps.length capK,.slice adN n.nums.length capN,.slice adC n.code.length capC],.func (.func 39) #[] #[.pointer (some ⟨w.heap.size,0,none⟩)]] (w.alloc (.cells #[.int .i64 n.places,.slice adF n.first.length capF,.slice adI n.ins.length capI,.slice adO n.outs.length capO,.slice adK n.keeps.length capK,.slice adN n.nums.length capN,.slice adC n.code.length capC] 26)) fun e w'=>e=.returned (.int .i64 (4:Int))/\Below (w.alloc (.cells #[.int .i64 n.places,.slice adF n.first.length capF,.slice adI n.ins.length capI,.slice adO n.outs.length capO,.slice adK n.keeps.length capK,.slice adN n.nums.length capN,.slice adC n.code.length capC] 26)).heap.size (w.alloc (.cells #[.int .i64 n.places,.slice adF n.first.length capF,.slice adI n.ins.length capI,.slice adO n.outs.length capO,.slice adK n.keeps.length capK,.slice adN n.nums.length capN,.slice adC n.code.length capC] 26)) w':=by
  by_cases hpl:4000<n.places
  ·exact I7 n w.heap.size _ adF adI adO adK adN adC capF capI capO capK capN capC hpl (by omega) (by omega)
  ·refine Y5 n w.heap.size _ adF adI adO adK adN adC capF capI capO capK capN capC X (by omega) r l ?_ Q
   exact Classical.byContradiction fun Z=>U ⟨by omega,r,l,by omega⟩
 clear h X Y r l Q U
 go_enter Tryz.func21,Tryz.ntmps21
 go_wp2_with (go_at_call 40;refine j.mono ?_;rintro e w1 ⟨rfl,s⟩)
 go_ret
 exact ⟨rfl,ball (aE w _) s⟩
end Nx
end
section
open Go.RowKit Px
namespace Ew
open Px.Em (Kd Vr eQ eR jP Rg cX)
open Nx (Nt Sp eJ)
def Bw (c:fZ):Option Nt:=match Em.uE c with
 | none=>none
 | some n=>if Nx.fY n=(0,-1) then some n else none
theorem pL {n:Nt}(h:Nx.fY n=(0,-1)):Nx.jB n:=by
 unfold Nx.fY at h
 by_cases hw:Nx.dD n=0
 ·unfold Nx.dD at hw
  by_cases h0:n.places<0\/4000<n.places\/4000<n.code.length\/4000<n.nums.length\/4000<n.ins.length+n.outs.length+n.keeps.length
  ·rw[if_pos h0] at hw;omega
  ·exact ⟨by omega,by omega,by omega,by omega⟩
 ·rw[if_neg hw] at h;injection h with h;exact absurd h hw
def aW2 (c:fZ) (w:World) (e:Ending) (w':World):Prop:=Below w.heap.size w w'/\((Bw c=none/\∃t v,e=.returned (.tuple #[.agg ZN,.iface t v]))\/∃(n:Nt) (vF vI vO vK vN vC:Value),Bw c=some n/\e=.returned (.tuple #[.agg #[.int .i64 n.places,vF,vI,vO,vK,vN,vC],.nilIface])/\rE (fun b=>w.heap.size≤b/\b<w'.heap.size) w' n vF vI vO vK vN vC/\wV n/\Nx.fY n=(0,-1))
theorem uU (h:Array Value) (W:World) (c:Nat) (j:Array Value) (v:Value) (hsz:j.size=7) (k:h[2]?.getD undef=.pointer (some ⟨c,0,none⟩)) (l:h[3]?.getD undef=v) (r:W.heap[c]?=some (.cells j 26 (0,0))) :
    (results Tryz.f19 h).run Tryz.prog W=.ok (.tuple #[.agg j,v]) W:=by
 simp[results,Tryz.results19,k,l,asAddr,xG hsz r]
theorem Pk {w2:World}{c:Nat}{a0 a1 D I a4 a5 J:Value}(hc:w2.heap[c]?=some (.cells ZN 26 (0,0))) {w3:World}(hw:w3=((((((w2.setCell ⟨c,0,none⟩ a0).setCell ⟨c,1,none⟩ a1).setCell ⟨c,2,none⟩ D).setCell ⟨c,3,none⟩ I).setCell ⟨c,4,none⟩ a4).setCell ⟨c,5,none⟩ a5).setCell ⟨c,6,none⟩ J) :
    w3.heap[c]?=some (.cells #[a0,a1,D,I,a4,a5,J] 26 (0,0))/\(∀k,k≠c->w3.heap[k]?=w2.heap[k]?)/\(∀B a,Below B a w2->B≤c->Below B a w3)/\w3.heap.size=w2.heap.size:=by
 have Q:=cH (l:=[.int .i64 0,.slice none 0 0,.slice none 0 0,.slice none 0 0,.slice none 0 0,.slice none 0 0,.slice none 0 0]) hc 0 a0
 have e:=cH (l:=[a0,.slice none 0 0,.slice none 0 0,.slice none 0 0,.slice none 0 0,.slice none 0 0,.slice none 0 0]) Q 1 a1
 have U:=cH (l:=[a0,a1,.slice none 0 0,.slice none 0 0,.slice none 0 0,.slice none 0 0,.slice none 0 0]) e 2 D
 have X:=cH (l:=[a0,a1,D,.slice none 0 0,.slice none 0 0,.slice none 0 0,.slice none 0 0]) U 3 I
 have Z:=cH (l:=[a0,a1,D,I,.slice none 0 0,.slice none 0 0,.slice none 0 0]) X 4 a4
 have Y:=cH (l:=[a0,a1,D,I,a4,.slice none 0 0,.slice none 0 0]) Z 5 a5
 have O:=cH (l:=[a0,a1,D,I,a4,a5,.slice none 0 0]) Y 6 J
 have y:∀(W:World) (j:Nat) (u:Value) (k:Nat),k≠c->(W.setCell ⟨c,j,none⟩ u).heap[k]?=W.heap[k]?:=fun W j u k hk=>Below.heap_setCell _ _ _ _ hk
 have bl:∀(B:Nat) (a W:World) (j:Nat) (u:Value),Below B a W->B≤c->Below B a (W.setCell ⟨c,j,none⟩ u):=fun B a W j u h hB=>h.setCell (p:=⟨c,j,none⟩) hB u
 have sz:∀(W:World) (j:Nat) (u:Value),(W.setCell ⟨c,j,none⟩ u).heap.size=W.heap.size:=fun W j u=>by simp[World.setCell]
 rw[hw]
 refine ⟨O,fun k s=>?_,fun B a hb r=>?_,?_⟩
 ·rw[y _ _ _ _ s,y _ _ _ _ s,y _ _ _ _ s,y _ _ _ _ s,y _ _ _ _ s,y _ _ _ _ s,y _ _ _ _ s]
 ·exact bl _ _ _ _ _ (bl _ _ _ _ _ (bl _ _ _ _ _ (bl _ _ _ _ _ (bl _ _ _ _ _ (bl _ _ _ _ _ (bl _ _ _ _ _ hb r) r) r) r) r) r) r
 ·rw[sz,sz,sz,sz,sz,sz,sz]
section
variable {A:Nat->Prop}{w:World}
theorem Ty {c:fZ}{S:ByteArray}{a a':Option Addr}{n m J m':Nat}(hC:gQ A w c (.agg #[.string S,.slice a n m,.slice a' J m'])) (hA:∀x,A x->x<w.heap.size) (ah:EmC c) :
    Calls Tryz.prog 19 #[.agg #[.string S,.slice a n m,.slice a' J m']] w (aW2 c w):=by
 obtain ⟨s,aj⟩:∃s,s=(w.alloc (.cells #[.string S,.slice a n m,.slice a' J m'] 47)).alloc (.cells ZN 26):=⟨_,rfl⟩
 obtain ⟨U1,ae⟩:∃U1,U1=w.alloc (.cells #[.string S,.slice a n m,.slice a' J m'] 47):=⟨_,rfl⟩
 have s1:U1.heap.size=w.heap.size+1:=by rw[ae];simp
 have I:s=U1.alloc (.cells ZN 26):=by rw[ae];exact aj
 have s0:s.heap.size=w.heap.size+2:=by rw[I];simp[s1]
 have b1:Below w.heap.size w U1:=by rw[ae];exact aC _ _
 have b2:Below U1.heap.size U1 s:=by rw[I];exact aC _ _
 have x0:s.heap[w.heap.size]?=some (.cells #[.string S,.slice a n m,.slice a' J m'] 47 (0,0)):=aD b2 (by rw[ae];exact aX w _)
 have x1:s.heap[w.heap.size+1]?=some (.cells ZN 26 (0,0)):=by rw[<-s1,I];exact aX U1 _
 have al:Below w.heap.size w s:=aQ b1 b2
 have cB:∀W,Below w.heap.size w W->gQ A W c (.agg #[.string S,.slice a n m,.slice a' J m']):=fun W hb=>by
  obtain ⟨p1,p2,p3,p4,p5,p6,p7,p8,p9⟩:=hC
  have kp:bB A A w W:=fun x hx hl=>⟨hx,hb.block x hl⟩
  exact ⟨p1,p2,p3,p4,p5,p6,p7,p8.carry kp,p9.carry kp (aM.carry kp 6)⟩
 have an:Calls Tryz.prog 37 #[.agg #[.string S,.slice a n m,.slice a' J m']] s fun e y=>e=.returned .nilIface/\Hid (Below s.heap.size s y):=(iU (cB s al) ah.run.nm).mono fun e y h=>by
  rw[ah.run.ok] at h
  obtain ⟨hb,⟨_,rfl⟩|⟨_,h,_⟩|⟨_,_,_,h,_⟩⟩:=h
  ·exact ⟨rfl,hb⟩
  ·simp at h
  ·simp at h
 have HC:Hid ((∀W,Below w.heap.size w W->gQ A W c (.agg #[.string S,.slice a n m,.slice a' J m']))/\(∀x,A x->x<w.heap.size)/\EmC c):=⟨cB,hA,ah⟩
 have HB:Hid (Below w.heap.size w s/\s.heap.size=w.heap.size+2/\s.heap[w.heap.size]?=some (.cells #[.string S,.slice a n m,.slice a' J m'] 47 (0,0))/\s.heap[w.heap.size+1]?=some (.cells ZN 26 (0,0))):=⟨al,s0,x0,x1⟩
 have y0:=aA x0 0 (u:=.string S) rfl
 have y1:=aA x0 1 (u:=.slice a n m) rfl
 have y2:=aA x0 2 (u:=.slice a' J m') rfl
 clear hC hA ah cB s1 I ae s0 b1 b2 x0 x1 al
 go_enter Tryz.func19,Tryz.ntmps19
 go_upto_region 1 with fail
 rw[show (w.alloc (.cells #[.string S,.slice a n m,.slice a' J m'] 47)).alloc (.cells #[.int .i64 0,.slice none 0 0,.slice none 0 0,.slice none 0 0,.slice none 0 0,.slice none 0 0,.slice none 0 0] 26)=s from aj.symm]
 clear aj
 go_upto_region 4 with (go_at_call 37;refine an.mono ?_;rintro e w1 ⟨rfl,h1⟩)
 have ai:Below w.heap.size w w1:=aQ HB.out.1 h1.out
 have x1:=aD h1.out HB.out.2.2.2
 have y0:=aN h1.out y0
 have y1:=aN h1.out y1
 have y2:=aN h1.out y2
 have ag:=Jf (HC.out.1 w1 ai) (fun x hx=>aH3 (HC.out.2.1 x hx) ai.size) HC.out.2.2
 have aa:Hid (Below w.heap.size w w1/\w.heap.size+2≤w1.heap.size/\w1.heap[w.heap.size+1]?=some (.cells ZN 26 (0,0))):=⟨ai,by have:=h1.out.size;have:=HB.out.2.1;omega,x1⟩
 clear an h1 ai x1
 cases h1:Em.uE c with
 | none=>
  have H1:Hid (Em.uE c=none):=h1
  clear h1
  have j:Calls Tryz.prog 38 #[.agg #[.string S,.slice a n m,.slice a' J m']] w1 fun e y=>e=.returned (.tuple #[.agg ZN,.iface 86 (.int .i64 4)])/\Hid (Below w1.heap.size w1 y):=ag.mono fun e y h=>by
   rw[H1.out] at h
   obtain ⟨hb,⟨_,rfl⟩|⟨_,_,_,_,_,_,_,h,_⟩⟩:=h
   ·exact ⟨rfl,hb⟩
   ·simp at h
  clear ag
  unfold ZN at j
  go_upto_region 5 with (go_at_call 38;refine j.mono ?_;rintro e w2 ⟨rfl,h2⟩)
  obtain ⟨V,hV⟩:∃V,V=w2.alloc (.cells #[.int .i64 0,.slice none 0 0,.slice none 0 0,.slice none 0 0,.slice none 0 0,.slice none 0 0,.slice none 0 0] 26):=⟨_,rfl⟩
  have r:Below w2.heap.size w2 V:=by rw[hV];exact aC _ _
  have u1:=aD r (aD h2.out aa.out.2.2)
  have l:Hid (Below w.heap.size w V/\V.heap[w.heap.size+1]?=some (.cells ZN 26 (0,0))):=⟨aQ (aQ aa.out.1 h2.out) r,u1⟩
  obtain ⟨r0,r1,r2,r3,r4,r5,r6⟩:=gJ u1
  have rf:∀o,V.frozen? ⟨w.heap.size+1,o,none⟩=false:=fun o=>aG u1 o
  rw[<-hV]
  clear hV r h2 j u1
  go_wp2_with fail
  obtain ⟨X,hX⟩:∃X,X=((((((V.setCell ⟨w.heap.size+1,0,none⟩ (.int .i64 0)).setCell ⟨w.heap.size+1,1,none⟩ (.slice none 0 0)).setCell ⟨w.heap.size+1,2,none⟩ (.slice none 0 0)).setCell ⟨w.heap.size+1,3,none⟩ (.slice none 0 0)).setCell ⟨w.heap.size+1,4,none⟩ (.slice none 0 0)).setCell ⟨w.heap.size+1,5,none⟩ (.slice none 0 0)).setCell ⟨w.heap.size+1,6,none⟩ (.slice none 0 0):=⟨_,rfl⟩
  rw[<-hX]
  obtain ⟨z0,z1,z2,z3⟩:=Pk l.out.2 hX
  clear hX
  refine aX5 (uU _ _ (w.heap.size+1) _ _ rfl rfl rfl z0) rfl ?_
  exact ⟨z2 _ _ l.out.1 (by omega),.inl ⟨by unfold Bw;rw[H1.out],_,_,rfl⟩⟩
 | some N=>
  have H1:Hid (Em.uE c=some N):=h1
  clear h1
  have j:Calls Tryz.prog 38 #[.agg #[.string S,.slice a n m,.slice a' J m']] w1 fun e y=>∃Q l1 o1 e2 l2 o2 e3 l3 o3 Y l4 o4 O l5 o5 U l6 Z,e=.returned (.tuple #[.agg #[.int .i64 N.places,.slice Q l1 o1,.slice e2 l2 o2,.slice e3 l3 o3,.slice Y l4 o4,.slice O l5 o5,.slice U l6 Z],.nilIface])/\Hid (Below w1.heap.size w1 y/\rE (fun b=>w1.heap.size≤b/\b<y.heap.size) y N (.slice Q l1 o1) (.slice e2 l2 o2) (.slice e3 l3 o3) (.slice Y l4 o4) (.slice O l5 o5) (.slice U l6 Z)/\wV N):=ag.mono fun e y h=>by
   rw[H1.out] at h
   obtain ⟨hb,⟨h,_⟩|⟨nn,vF,vI,vO,vK,vN,vC,h,rfl,hN,hf⟩⟩:=h
   ·simp at h
   ·injection h with h
    subst h
    obtain ⟨Q,_,_,o1,rfl,_⟩:=id hN.f
    obtain ⟨e2,_,_,o2,rfl,_⟩:=id hN.i
    obtain ⟨e3,_,_,o3,rfl,_⟩:=id hN.o
    obtain ⟨Y,_,_,o4,rfl,_⟩:=id hN.k
    obtain ⟨O,_,_,o5,rfl,_⟩:=id hN.m
    obtain ⟨U,_,_,Z,rfl,_⟩:=id hN.c
    exact ⟨_,_,_,_,_,_,_,_,_,_,_,_,_,_,_,_,_,_,rfl,hb,hN,hf⟩
  obtain ⟨pl,ak⟩:∃pl,pl=N.places:=⟨_,rfl⟩
  rw[<-ak] at j
  have am:Hid (pl=N.places):=ak
  clear ag ak
  go_upto_region 5 with (go_at_call 38;refine j.mono ?_;rintro e w2 ⟨Q,l1,o1,e2,l2,o2,e3,l3,o3,Y,l4,o4,O,l5,o5,U,l6,Z,rfl,h2⟩)
  obtain ⟨q5,ad⟩:∃q5,q5=w2.heap.size:=⟨_,rfl⟩
  obtain ⟨V,hV⟩:∃V,V=w2.alloc (.cells #[.int .i64 pl,.slice Q l1 o1,.slice e2 l2 o2,.slice e3 l3 o3,.slice Y l4 o4,.slice O l5 o5,.slice U l6 Z] 26):=⟨_,rfl⟩
  have r:Below w2.heap.size w2 V:=by rw[hV];exact aC _ _
  have af:V.heap[q5]?=some (.cells #[.int .i64 pl,.slice Q l1 o1,.slice e2 l2 o2,.slice e3 l3 o3,.slice Y l4 o4,.slice O l5 o5,.slice U l6 Z] 26 (0,0)):=by rw[hV,ad];exact aX w2 _
  have ac:rE (fun b=>w1.heap.size≤b/\b<V.heap.size) V N (.slice Q l1 o1) (.slice e2 l2 o2) (.slice e3 l3 o3) (.slice Y l4 o4) (.slice O l5 o5) (.slice U l6 Z):=h2.out.2.1.carry fun b hb hl=>⟨⟨hb.1,aH3 hb.2 r.size⟩,r.block b hl⟩
  have u1:=aD r (aD h2.out.1 aa.out.2.2)
  have l:Hid (Below w.heap.size w V/\V.heap[w.heap.size+1]?=some (.cells ZN 26 (0,0))/\wV N/\rE (fun b=>w1.heap.size≤b/\b<V.heap.size) V N (.slice Q l1 o1) (.slice e2 l2 o2) (.slice e3 l3 o3) (.slice Y l4 o4) (.slice O l5 o5) (.slice U l6 Z)/\V.heap[q5]?=some (.cells #[.int .i64 pl,.slice Q l1 o1,.slice e2 l2 o2,.slice e3 l3 o3,.slice Y l4 o4,.slice O l5 o5,.slice U l6 Z] 26 (0,0))):=⟨aQ (aQ aa.out.1 h2.out.1) r,u1,h2.out.2.2,ac,af⟩
  obtain ⟨p0,p1,p2,p3,p4,p5,p6⟩:=gJ af
  by_cases h2':Nx.fY N=(0,-1)
  ·have H2:Hid (Nx.fY N=(0,-1)):=h2'
   clear h2'
   have D:=(show Calls Tryz.prog 21 #[.agg #[.int .i64 pl,.slice Q l1 o1,.slice e2 l2 o2,.slice e3 l3 o3,.slice Y l4 o4,.slice O l5 o5,.slice U l6 Z]] V fun e y=>e=.returned .nilIface/\Hid (Below V.heap.size V y) from by
    have hv:=ac.netV (B:=V.heap.size) fun b hb=>hb.2
    rw[am.out]
    refine (Nx.iU V.heap.size N V _ _ _ _ _ _ hv (aF4 _) (pL H2.out)).mono fun e y h=>?_
    obtain ⟨v,rfl,he,hb⟩:=h
    rw[H2.out] at he
    rcases he with ⟨_,_,rfl⟩|⟨c1,_,_⟩|⟨c1,_⟩
    ·exact ⟨rfl,hb⟩
    ·exact absurd rfl c1
    ·exact absurd rfl c1)
   rw[<-hV,<-ad]
   clear hV ad r af ac h2 j u1
   go_upto_region 9 with (go_at_call 21;refine D.mono ?_;rintro e w3 ⟨rfl,h3⟩)
   have u1:=aD h3.out l.out.2.1
   have ao:=aD h3.out l.out.2.2.2.2
   have ab:Hid (Below w.heap.size w w3/\w3.heap[w.heap.size+1]?=some (.cells ZN 26 (0,0))/\rE (fun b=>w1.heap.size≤b/\b<w3.heap.size) w3 N (.slice Q l1 o1) (.slice e2 l2 o2) (.slice e3 l3 o3) (.slice Y l4 o4) (.slice O l5 o5) (.slice U l6 Z)):=⟨aQ l.out.1 h3.out,u1,l.out.2.2.2.1.carry fun b hb hl=>⟨⟨hb.1,aH3 hb.2 h3.out.size⟩,h3.out.block b hl⟩⟩
   obtain ⟨r0,r1,r2,r3,r4,r5,r6⟩:=gJ u1
   have rf:∀o,w3.frozen? ⟨w.heap.size+1,o,none⟩=false:=fun o=>aG u1 o
   obtain ⟨p0,p1,p2,p3,p4,p5,p6⟩:=gJ ao
   clear D h3 u1 ao
   go_wp2_with fail
   obtain ⟨X,hX⟩:∃X,X=((((((w3.setCell ⟨w.heap.size+1,0,none⟩ (.int .i64 pl)).setCell ⟨w.heap.size+1,1,none⟩ (.slice Q l1 o1)).setCell ⟨w.heap.size+1,2,none⟩ (.slice e2 l2 o2)).setCell ⟨w.heap.size+1,3,none⟩ (.slice e3 l3 o3)).setCell ⟨w.heap.size+1,4,none⟩ (.slice Y l4 o4)).setCell ⟨w.heap.size+1,5,none⟩ (.slice O l5 o5)).setCell ⟨w.heap.size+1,6,none⟩ (.slice U l6 Z):=⟨_,rfl⟩
   rw[<-hX]
   obtain ⟨z0,z1,z2,z3⟩:=Pk ab.out.2.1 hX
   clear hX
   refine aX5 (uU _ _ (w.heap.size+1) _ _ rfl rfl rfl z0) rfl ?_
   refine ⟨z2 _ _ ab.out.1 (by omega),.inr ⟨N,_,_,_,_,_,_,by unfold Bw;rw[H1.out];exact if_pos H2.out,by rw[<-am.out];rfl,ab.out.2.2.carry fun b hb hl=>⟨⟨?_,by rw[z3];exact hb.2⟩,z1 b ?_⟩,l.out.2.2.1,H2.out⟩⟩
   ·have:=aa.out.2.1;omega
   ·have:=aa.out.2.1;omega
  ·have H2:Hid (Nx.fY N≠(0,-1)):=h2'
   clear h2'
   have D:=(show Calls Tryz.prog 21 #[.agg #[.int .i64 pl,.slice Q l1 o1,.slice e2 l2 o2,.slice e3 l3 o3,.slice Y l4 o4,.slice O l5 o5,.slice U l6 Z]] V fun e y=>∃t v,e=.returned (.iface t v)/\Hid (Below V.heap.size V y) from by
    have hv:=ac.netV (B:=V.heap.size) fun b hb=>hb.2
    have hf:=h2.out.2.2
    rw[am.out]
    by_cases hs:Nx.jB N
    ·refine (Nx.iU V.heap.size N V _ _ _ _ _ _ hv (aF4 _) hs).mono fun e y h=>?_
     obtain ⟨v,rfl,he,hb⟩:=h
     rcases he with ⟨c1,c2,rfl⟩|⟨_,_,rfl⟩|⟨_,g,q,_,_,rfl,_⟩
     ·exact absurd (Prod.ext c1 c2) H2.out
     ·exact ⟨_,_,rfl,hb⟩
     ·exact ⟨_,_,rfl,hb⟩
    ·refine (Nx.Ni V.heap.size N V _ _ _ _ _ _ hv (by rw[hf.len];omega) (by rw[hf.len];have:=hf.few;omega) hf.code (by have:=hf.nums;have:=hf.code;omega) (by have:=hf.few;have:=hf.ins;have:=hf.outs;have:=hf.keeps;omega) hs).mono fun e y h=>?_
     obtain ⟨rfl,hb⟩:=h
     exact ⟨_,_,rfl,hb⟩)
   rw[<-hV,<-ad]
   clear hV ad r af ac h2 j u1
   go_upto_region 7 with (go_at_call 21;refine D.mono ?_;rintro e w3 ⟨tt,tv,rfl,h3⟩)
   have u1:=aD h3.out l.out.2.1
   have ab:Hid (Below w.heap.size w w3/\w3.heap[w.heap.size+1]?=some (.cells ZN 26 (0,0))):=⟨aQ l.out.1 h3.out,u1⟩
   obtain ⟨r0,r1,r2,r3,r4,r5,r6⟩:=gJ u1
   have rf:∀o,w3.frozen? ⟨w.heap.size+1,o,none⟩=false:=fun o=>aG u1 o
   clear D h3 u1 p0 p1 p2 p3 p4 p5 p6
   go_wp2_with fail
   obtain ⟨X,hX⟩:∃X,X=((((((w3.setCell ⟨w.heap.size+1,0,none⟩ (.int .i64 0)).setCell ⟨w.heap.size+1,1,none⟩ (.slice none 0 0)).setCell ⟨w.heap.size+1,2,none⟩ (.slice none 0 0)).setCell ⟨w.heap.size+1,3,none⟩ (.slice none 0 0)).setCell ⟨w.heap.size+1,4,none⟩ (.slice none 0 0)).setCell ⟨w.heap.size+1,5,none⟩ (.slice none 0 0)).setCell ⟨w.heap.size+1,6,none⟩ (.slice none 0 0):=⟨_,rfl⟩
   rw[<-hX]
   obtain ⟨z0,z1,z2,z3⟩:=Pk ab.out.2 hX
   clear hX
   refine aX5 (uU _ _ (w.heap.size+1) _ _ rfl rfl rfl z0) rfl ?_
   exact ⟨z2 _ _ ab.out.1 (by omega),.inl ⟨by unfold Bw;rw[H1.out];exact if_neg H2.out,_,_,rfl⟩⟩
end
end Ew
end
end Go.Proofs.YthieaobjdpfcoaaGreatDoor
