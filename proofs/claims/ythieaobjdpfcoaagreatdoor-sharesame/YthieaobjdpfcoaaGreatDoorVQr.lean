import Derived.Test.YthieaobjdpfcoaaGreatDoorVZn
set_option maxRecDepth 100000
set_option maxHeartbeats 16000000
namespace Go.Proofs.YthieaobjdpfcoaaGreatDoor
open Go.Proofs.Tryz (prog)
section
open Go.RowKit Go.Sort Px
namespace Sx
open Nx (Nt Sp eJ kK bH jA aN3)
open Ew (bM)
theorem wB {A:Nat->Prop}{w:World}{v:Value}{zs:List Int}(x:Int) (h:bH A w v zs) (hl:zs.length≤100000) :
 Calls prog 12 #[v,.int .i64 x] w fun e w'=>e=.returned (.bool (decide (x∈zs)))/\w'=w:=by
 obtain ⟨ad,b,D,cap,rfl,Z,Y⟩:=h
 have HP:Hid ((0<zs.length->ad=some ⟨b,D,none⟩)/\∀k,k<zs.length->w.cell? ⟨b,D+k,none⟩=some (.int .i64 (zs.getD k 0))):=⟨fun h=>(Z h).1,Y⟩
 obtain ⟨l,u⟩:=gQx zs.length
 have Q:Hid (l=zs.length):=u
 obtain ⟨r,O⟩:∃r:Bool,r=decide (x∈zs):=⟨_,rfl⟩
 have HR:Hid (r=decide (x∈zs)):=O
 rw[<-O,<-u]
 have ab:l≤100000:=by omega
 clear Z Y hl u O
 go_enter Tryz.func12,Tryz.ntmps12
 go_wp2
 go_loopw [5] (fun i wr=>∃k:Nat,k≤l/\i=.int .i64 k/\Hid (wr=w/\∀j,j<k->zs.getD j 0≠x)) (fun i _=>l-(intOf i).toNat)
 case atStart=>exact ⟨0,aP6 _,rfl,rfl,fun j J=>absurd J (Nat.not_lt_zero _)⟩
 case round=>
  obtain ⟨k,hk,rfl,n⟩:=hrel
  obtain rfl:=n.out.1.symm
  have HN:Hid (∀j,j<k->zs.getD j 0≠x):=n.out.2
  clear n
  by_cases hlt:k<l
  ·have aa:=Nx.Q7 ad b D l cap k hlt (fun h=>HP.out.1 (by rw[<-Q.out];exact h))
   obtain ⟨y,I⟩:=gQx (zs.getD k 0)
   have c:k<zs.length:=by rw[<-Q.out];exact hlt
   have cy:=HP.out.2 k c
   rw[<-I] at cy
   have s:zs[k]?=some y:=by rw[I,iO,aN4 c];rfl
   by_cases hxy:y=x
   ·have X:Hid (r=true):=by
     unfold Hid
     rw[HR.out]
     exact decide_eq_true (by rw[<-hxy];exact aP1 s)
    have t1:(y==x)=true:=by simp[hxy]
    clear I s hxy c
    go_wp2_with fail
    go_ret
    exact ⟨by rw[X.out];rfl,rfl⟩
   ·have t1:(y==x)=false:=by simp[hxy]
    have HX:Hid (zs.getD k 0≠x):=by rw[<-I];exact hxy
    clear I s hxy c
    go_wp2_with fail
    go_roundw
    case rel=>exact ⟨k+1,by omega,by go_num,trivial,fun j J=>by
     by_cases e:j=k
     ·rw[e];exact HX.out
     ·exact HN.out j (by omega)⟩
    case measure=>simp[intOf];omega
  ·obtain rfl:k=l:=by omega
   have X:Hid (r=false):=by
    unfold Hid
    rw[HR.out]
    refine decide_eq_false fun hm=>?_
    obtain ⟨j,J,U⟩:=List.getElem_of_mem hm
    exact HN.out j (by rw[Q.out];exact J) (by rw[iO,aN4 J];exact U)
   go_wp2_with fail
   go_ret
   exact ⟨by rw[X.out];rfl,rfl⟩
theorem aP2 (w:World):(Instr.makeSlice 22 (.int .i64 3) (.int .i64 3)).run prog w=.ok (.slice (some ⟨w.heap.size,0,none⟩) 3 3) (w.alloc (.cells #[.int .i64 0,.int .i64 0,.int .i64 0] 2)):=by kernel_rfl
theorem aP3 {p:Addr}(n c j:Nat) (h:j<n) (w:World):(Instr.indexAt 24 (.slice (some p) n c) (.int .i64 (j:Int))).run prog w=.ok (.pointer (some (p.add (j*5)))) w:=by
 rw[aY8 _ _ _ _ _ _ _ (by kernel_rfl),if_pos ⟨by omega,by omega⟩]
 have e:(sizeOf (prog.elem 24)).run prog w=.ok 5 w:=by kernel_rfl
 rw[e]
 simp[Result.andThen]
def nS:Nt:=⟨3,[0,0,0],[0],[1,2],[],[],[⟨4,1,0,0,0⟩,⟨4,2,0,0,0⟩]⟩
theorem Jg:Nx.fY nS=(0,-1):=by kernel_rfl
theorem Je:(eU nS).code=[⟨4,1,0,0,0⟩,⟨2,2,1,0,0⟩]:=by kernel_rfl
theorem Rr (w:World):∃V,V=((((w.alloc (.cells #[.int .i64 0,.int .i64 0,.int .i64 0] 2)).alloc (.cells #[.int .i64 0] 3)).alloc (.cells #[.int .i64 1,.int .i64 2] 3)).alloc (.cells #[.int .i64 4,.int .i64 1,.int .i64 0,.int .i64 0,.int .i64 0,.int .i64 4,.int .i64 2,.int .i64 0,.int .i64 0,.int .i64 0] 38)).alloc (.cells #[.int .i64 3,.slice (some ⟨w.heap.size,0,none⟩) 3 3,.slice (some ⟨w.heap.size+1,0,none⟩) 1 1,.slice (some ⟨w.heap.size+1+1,0,none⟩) 2 2,.slice none 0 0,.slice none 0 0,.slice (some ⟨w.heap.size+1+1+1,0,none⟩) 2 2] 26)/\Below w.heap.size w V/\eJ V.heap.size V nS (.slice (some ⟨w.heap.size,0,none⟩) 3 3) (.slice (some ⟨w.heap.size+1,0,none⟩) 1 1) (.slice (some ⟨w.heap.size+1+1,0,none⟩) 2 2) (.slice none 0 0) (.slice none 0 0) (.slice (some ⟨w.heap.size+1+1+1,0,none⟩) 2 2)/\V.heap[w.heap.size+1+1+1+1]?=some (.cells #[.int .i64 3,.slice (some ⟨w.heap.size,0,none⟩) 3 3,.slice (some ⟨w.heap.size+1,0,none⟩) 1 1,.slice (some ⟨w.heap.size+1+1,0,none⟩) 2 2,.slice none 0 0,.slice none 0 0,.slice (some ⟨w.heap.size+1+1+1,0,none⟩) 2 2] 26 (0,0)):=by
 obtain ⟨h,u⟩:=gQx (w.alloc (.cells #[.int .i64 0,.int .i64 0,.int .i64 0] 2))
 obtain ⟨k,n⟩:=gQx (h.alloc (.cells #[.int .i64 0] 3))
 obtain ⟨j,r⟩:=gQx (k.alloc (.cells #[.int .i64 1,.int .i64 2] 3))
 obtain ⟨c,s⟩:=gQx (j.alloc (.cells #[.int .i64 4,.int .i64 1,.int .i64 0,.int .i64 0,.int .i64 0,.int .i64 4,.int .i64 2,.int .i64 0,.int .i64 0,.int .i64 0] 38))
 have D:h.heap.size=w.heap.size+1:=by rw[u];simp
 have O:k.heap.size=w.heap.size+1+1:=by rw[n];simp[D]
 have J:j.heap.size=w.heap.size+1+1+1:=by rw[r];simp[O]
 have X:c.heap.size=w.heap.size+1+1+1+1:=by rw[s];simp[J]
 have U:Below w.heap.size w h:=by rw[u];exact aL _ _
 have I:Below h.heap.size h k:=by rw[n];exact aL _ _
 have b3:Below k.heap.size k j:=by rw[r];exact aL _ _
 have b4:Below j.heap.size j c:=by rw[s];exact aL _ _
 have Q:h.heap[w.heap.size]?=some (.cells #[.int .i64 0,.int .i64 0,.int .i64 0] 2 (0,0)):=by rw[u];exact aX _ _
 have Y:k.heap[w.heap.size+1]?=some (.cells #[.int .i64 0] 3 (0,0)):=by rw[<-D,n];exact aX _ _
 have Z:j.heap[w.heap.size+1+1]?=some (.cells #[.int .i64 1,.int .i64 2] 3 (0,0)):=by rw[<-O,r];exact aX _ _
 have e:c.heap[w.heap.size+1+1+1]?=some (.cells #[.int .i64 4,.int .i64 1,.int .i64 0,.int .i64 0,.int .i64 0,.int .i64 4,.int .i64 2,.int .i64 0,.int .i64 0,.int .i64 0] 38 (0,0)):=by rw[<-J,s];exact aX _ _
 rw[<-u,<-n,<-r,<-s]
 obtain ⟨V,y⟩:=gQx (c.alloc (.cells #[.int .i64 3,.slice (some ⟨w.heap.size,0,none⟩) 3 3,.slice (some ⟨w.heap.size+1,0,none⟩) 1 1,.slice (some ⟨w.heap.size+1+1,0,none⟩) 2 2,.slice none 0 0,.slice none 0 0,.slice (some ⟨w.heap.size+1+1+1,0,none⟩) 2 2] 26))
 have b5:Below c.heap.size c V:=by rw[y];exact aL _ _
 refine ⟨V,y,aQ U (aQ I (aQ b3 (aQ b4 b5))),⟨?_,?_,?_,Ew.Am,Ew.Am,?_⟩,by rw[<-X,y];exact aX _ _⟩
 ·exact Ew.yU (zs:=[0,0,0]) 3 (aD b5 (aD b4 (aD b3 (aD I Q))))
 ·exact Ew.yU (zs:=[0]) 1 (aD b5 (aD b4 (aD b3 Y)))
 ·exact Ew.yU (zs:=[1,2]) 2 (aD b5 (aD b4 Z))
 ·exact Ew.Lq (l:=[⟨4,1,0,0,0⟩,⟨4,2,0,0,0⟩]) 2 (aD b5 e)
section
theorem aF3 (w:World):Calls prog 7 #[] w fun e w'=>e=.returned (.bool true)/\Hid (Below w.heap.size w w'):=by
 have m3:=aP2
 obtain ⟨V,hV,aa,hN,hk⟩:=Rr w
 have ac:=aC8 (n:=nS) (aO4 _) hN (Nx.Ho Jg)
 have l:Calls prog 9 #[.agg #[.int .i64 3,.slice (some ⟨w.heap.size,0,none⟩) 3 3,.slice (some ⟨w.heap.size+1,0,none⟩) 1 1,.slice (some ⟨w.heap.size+1+1,0,none⟩) 2 2,.slice none 0 0,.slice none 0 0,.slice (some ⟨w.heap.size+1+1+1,0,none⟩) 2 2]] V fun e w'=>∃(f1 f2 f3 J D:Option Addr) (Q Y I U s g3 O y u Z j k r:Nat),e=.returned (.tuple #[.agg #[.int .i64 3,.slice f1 Q Y,.slice f2 I U,.slice f3 s g3,.slice J O y,.slice D u Z,.slice (some ⟨j,k,none⟩) 2 r],.nilIface])/\Hid (Below V.heap.size V w'/\w'.cell? ⟨j,k+5,none⟩=some (.int .i64 2)):=by
  refine ac.mono fun e w' h=>?_
  obtain ⟨f1,f2,f3,J,D,f6,Q,Y,I,U,s,g3,O,y,u,Z,k6,r,he,hb,hM,-⟩:=h
  have hc:=hM.c
  rw[Je] at hc
  obtain ⟨rfl,j,k,ae,ad⟩:=Ew.pJ hc
  obtain rfl:=ae (by simp)
  obtain ⟨x0,x1,x2,x3,x4⟩:=ad 1 (by simp)
  exact ⟨f1,f2,f3,J,D,Q,Y,I,U,s,g3,O,y,u,Z,j,k,r,he,hb,x0⟩
 have HB:Hid (Below w.heap.size w V):=aa
 obtain ⟨p0,p1,p2,p3,p4,p5,p6⟩:=Nx.lJ hk
 have af:=fun j k r W=>aP3 (p:=⟨j,k,none⟩) 2 r 1 (by omega) W
 clear hN ac aa hk
 go_enter Tryz.func7,Tryz.ntmps7
 go_upto_region 2 with fail
 rw[<-hV]
 clear hV m3
 go_upto_region 3 with (go_at_call 9;refine l.mono ?_;rintro e w1 ⟨f1,f2,f3,J,D,Q,Y,I,U,s,g3,O,y,u,Z,j,k,r,rfl,h1⟩;clear l;obtain ⟨ab,y0⟩:=h1.out)
 obtain ⟨X,hX⟩:=gQx (w1.alloc (.cells #[.int .i64 3,.slice f1 Q Y,.slice f2 I U,.slice f3 s g3,.slice J O y,.slice D u Z,.slice (some ⟨j,k,none⟩) 2 r] 26))
 obtain ⟨q,hq⟩:=gQx w1.heap.size
 have bX:Below w1.heap.size w1 X:=by rw[hX];exact aL _ _
 have kX:X.heap[q]?=some (.cells #[.int .i64 3,.slice f1 Q Y,.slice f2 I U,.slice f3 s g3,.slice J O y,.slice D u Z,.slice (some ⟨j,k,none⟩) 2 r] 26 (0,0)):=by rw[hX,hq];exact aX _ _
 obtain ⟨-,-,-,-,-,q5,q6⟩:=Nx.lJ kX
 rw[<-hX,<-hq]
 have z0:=aN bX y0
 have HX:Hid (Below w.heap.size w X):=aQ HB.out (aQ ab bX)
 clear hX hq bX kX y0 ab h1 p0 p1 p2 p3 p4 p5 p6
 go_wp2_with fail
 go_ret
 exact ⟨rfl,HX⟩
end
open Nx (pB told)
open Ew (Ze ZN)
section
variable {w:World}
theorem aC5 {s:ByteArray}{n:Nt}{e1 e2 e3 e4 e5 e6:Option Addr}{l1 o1 l2 o2 l3 o3 l4 o4 l5 o5 l6 o6:Nat}{rows:List (List Int)}{ak:Option Addr}{bR y au:Nat}(hK:Kx.rP w) (hN:eJ w.heap.size w n (.slice e1 l1 o1) (.slice e2 l2 o2) (.slice e3 l3 o3) (.slice e4 l4 o4) (.slice e5 l5 o5) (.slice e6 l6 o6)) (cm:∀x∈n.first,jF x) (cq:∀x∈n.nums,jF x) (ax:0<rows.length->ak=some ⟨bR,y,none⟩/\bR<w.heap.size) (bk:∀k,k<rows.length->∃u,w.cell? ⟨bR,y+k,none⟩=some u/\bH (· < w.heap.size) w u (rows.getD k [])) :
 Calls prog 3 #[.string s,.agg #[.int .i64 n.places,.slice e1 l1 o1,.slice e2 l2 o2,.slice e3 l3 o3,.slice e4 l4 o4,.slice e5 l5 o5,.slice e6 l6 o6],.slice ak rows.length au] w fun e w'=>e=.returned (.bool true)/\Hid (Below w.heap.size w w'):=by
 obtain ⟨pl,bj⟩:=gQx n.places
 have db:Hid (pl=n.places):=bj
 rw[<-bj]
 obtain ⟨W,hW⟩:=gQx (w.alloc (.cells #[.int .i64 pl,.slice e1 l1 o1,.slice e2 l2 o2,.slice e3 l3 o3,.slice e4 l4 o4,.slice e5 l5 o5,.slice e6 l6 o6] 26))
 obtain ⟨q,hq⟩:=gQx w.heap.size
 have bW:Below w.heap.size w W:=by rw[hW];exact aL _ _
 have kW:W.heap[q]?=some (.cells #[.int .i64 pl,.slice e1 l1 o1,.slice e2 l2 o2,.slice e3 l3 o3,.slice e4 l4 o4,.slice e5 l5 o5,.slice e6 l6 o6] 26 (0,0)):=by rw[hW,hq];exact aX w _
 have bp:∀w1,Below w.heap.size w w1->(0<rows.length->ak=some ⟨bR,y,none⟩/\bR<w1.heap.size)/\∀k,k<rows.length->∃u,w1.cell? ⟨bR,y+k,none⟩=some u/\bH (· < w1.heap.size) w1 u (rows.getD k []):=fun w1 hb=>⟨fun hp=>⟨(ax hp).1,aO5 (ax hp).2 hb.size⟩,fun k hk=>by
  obtain ⟨u,h1,h2⟩:=bk k hk
  exact ⟨u,aN hb h1,h2.carry fun b hl _=>⟨aO5 hl hb.size,hb.block b hl⟩⟩⟩
 have av:=Nx.Tn (w:=W) au (bp W bW).1 (bp W bW).2
 have HB:Hid (Below w.heap.size w W/\W.heap[q]?=some (.cells #[.int .i64 pl,.slice e1 l1 o1,.slice e2 l2 o2,.slice e3 l3 o3,.slice e4 l4 o4,.slice e5 l5 o5,.slice e6 l6 o6] 26 (0,0))/\q=w.heap.size):=⟨bW,kW,hq⟩
 have HN:Hid (eJ w.heap.size w n (.slice e1 l1 o1) (.slice e2 l2 o2) (.slice e3 l3 o3) (.slice e4 l4 o4) (.slice e5 l5 o5) (.slice e6 l6 o6)/\(∀x∈n.first,jF x)/\(∀x∈n.nums,jF x)/\Kx.rP w):=⟨hN,cm,cq,hK⟩
 have cb:Hid ((0<rows.length->ak=some ⟨bR,y,none⟩/\bR<w.heap.size)/\∀k,k<rows.length->∃u,w.cell? ⟨bR,y+k,none⟩=some u/\bH (· < w.heap.size) w u (rows.getD k [])):=⟨ax,bk⟩
 obtain ⟨ln,bh⟩:=gQx rows.length
 have di:Hid (ln=rows.length):=bh
 rw[<-bh] at av ⊢
 clear hK hN cm cq ax bk bp bj bW kW bh
 go_enter Tryz.func3,Tryz.ntmps3
 go_upto_region 1 with fail
 rw[<-hW,<-hq]
 clear hW hq
 go_upto_if 17 with (go_at_call 6;refine av.mono ?_;rintro e w0 ⟨bf,rfl,dj,hR⟩;obtain rfl:=dj.symm;clear av)
 cases bf with
 | false=>
  go_wp2_with fail
  go_ret
  exact ⟨rfl,HB.out.1⟩
 | true=>
  have HR:Hid (pB W ak bR y rows):=hR.out rfl
  clear hR
  have ca:=aF3 W
  go_upto_region 5 with (go_at_call 7;refine ca.mono ?_;rintro e w1 ⟨rfl,h1⟩;clear ca)
  have HC:Hid (Below w.heap.size w w1/\Below W.heap.size W w1):=⟨aQ HB.out.1 h1.out,h1.out⟩
  have bm:=aD h1.out HB.out.2.1
  have ce:=HN.out.1.below HC.out.1 (aO4 _)
  have ab:=Ew.aJ5 (s:=s) HC.out.1.size (HN.out.2.2.2.up HC.out.1) ce HN.out.2.1 HN.out.2.2.1
  rw[<-db.out] at ab
  obtain ⟨r0,r1,r2,r3,r4,r5,r6⟩:=Nx.lJ bm
  clear ce bm h1
  go_upto_if 27 with (go_at_call 8;refine ab.mono ?_;rintro e w4 ⟨N,g1,g2,g3,g4,g5,g6,m1,d1,m2,d2,m3,d3,m4,d4,m5,d5,m6,d6,b,rfl,h4⟩;have ap:=aD h4.out.1 (aD HC.out.2 HB.out.2.1);obtain ⟨z0,z1,z2,z3,z4,z5,z6⟩:=Nx.lJ ap;have zf:=fun o=>aG ap o)
  obtain ⟨pn,bn⟩:=gQx N.places
  have bq:Hid (pn=N.places):=bn
  rw[<-bn]
  obtain ⟨X,hX⟩:=gQx (((((((w4.setCell ⟨q,0,none⟩ (.int .i64 pn)).setCell ⟨q,1,none⟩ (.slice g1 m1 d1)).setCell ⟨q,2,none⟩ (.slice g2 m2 d2)).setCell ⟨q,3,none⟩ (.slice g3 m3 d3)).setCell ⟨q,4,none⟩ (.slice g4 m4 d4)).setCell ⟨q,5,none⟩ (.slice g5 m5 d5)).setCell ⟨q,6,none⟩ (.slice g6 m6 d6))
  rw[<-hX]
  have cu:q<w1.heap.size:=aB (aD HC.out.2 HB.out.2.1)
  have ag:=Ew.Ud (N:=N) (w:=w) (B:=w.heap.size) (by have:=HB.out.2.2;omega) cu ap hX (aQ HC.out.1 h4.out.1) (by have:=HB.out.2.2;omega)
  have HX:Hid (Below w.heap.size w X/\X.heap[q]?=some (.cells #[.int .i64 pn,.slice g1 m1 d1,.slice g2 m2 d2,.slice g3 m3 d3,.slice g4 m4 d4,.slice g5 m5 d5,.slice g6 m6 d6] 26 (0,0))/\pB X ak bR y rows):=⟨ag.1,ag.2.1,(show pB w ak bR y rows from ⟨HR.out.few,cb.out.1,cb.out.2⟩).below ag.1⟩
  cases b with
  | false=>
   clear hX ag ap z0 z1 z2 z3 z4 z5 z6 zf r0 r1 r2 r3 r4 r5 r6 ab
   go_wp2_with fail
   go_ret
   exact ⟨rfl,HX.out.1⟩
  | true=>
   obtain ⟨bb,ac,co,ch⟩:=ag.2.2 (h4.out.2 rfl)
   obtain ⟨lc,be⟩:=gQx N.code.length
   obtain ⟨r,aw⟩:=gQx ((eU N).code.length)
   have df:m6=lc:=by rw[be];exact (Ew.pJ bb.c).1
   subst df
   have HM:Hid (eJ X.heap.size X N (.slice g1 m1 d1) (.slice g2 m2 d2) (.slice g3 m3 d3) (.slice g4 m4 d4) (.slice g5 m5 d5) (.slice g6 m6 d6)/\kK N/\m6=N.code.length/\r=(eU N).code.length/\r≤m6):=⟨bb,ac,be,aw,by rw[be,aw];exact Ec ac⟩
   have cf:Calls prog 9 #[.agg #[.int .i64 pn,.slice g1 m1 d1,.slice g2 m2 d2,.slice g3 m3 d3,.slice g4 m4 d4,.slice g5 m5 d5,.slice g6 m6 d6]] X fun e w'=>∃(f1 f2 f3 f4 f5 f6:Option Addr) (k1 c1 k2 c2 k3 c3 k4 c4 lm c5 D:Nat),e=.returned (.tuple #[.agg #[.int .i64 pn,.slice f1 k1 c1,.slice f2 k2 c2,.slice f3 k3 c3,.slice f4 k4 c4,.slice f5 lm c5,.slice f6 r D],.nilIface])/\Hid (Below X.heap.size X w'/\eJ w'.heap.size w' (eU N) (.slice f1 k1 c1) (.slice f2 k2 c2) (.slice f3 k3 c3) (.slice f4 k4 c4) (.slice f5 lm c5) (.slice f6 r D)/\r≤D):=by
    rw[bq.out]
    refine (aC8 (n:=N) (aO4 _) bb ac).mono fun e w' h=>?_
    obtain ⟨f1,f2,f3,f4,f5,f6,k1,c1,k2,c2,k3,c3,k4,c4,k5,c5,k6,D,he,hb,hM,ar⟩:=h
    have da:k6=r:=by rw[aw];exact (Ew.pJ hM.c).1
    subst da
    exact ⟨f1,f2,f3,f4,f5,f6,k1,c1,k2,c2,k3,c3,k4,c4,k5,c5,D,he,hb,hM,ar⟩
   obtain ⟨x0,x1,x2,x3,x4,x5,x6⟩:=Nx.lJ ag.2.1
   clear hX ag ap z0 z1 z2 z3 z4 z5 z6 zf r0 r1 r2 r3 r4 r5 r6 ab bb ac co ch be aw h4 bn
   go_upto_region 9 with (go_at_call 9;refine cf.mono ?_;rintro e w5 ⟨f1,f2,f3,f4,f5,f6,k1,c1,k2,c2,k3,c3,k4,c4,lm,c5,D,rfl,h5⟩;clear cf)
   obtain ⟨Y,hY⟩:=gQx (w5.alloc (.cells #[.int .i64 pn,.slice f1 k1 c1,.slice f2 k2 c2,.slice f3 k3 c3,.slice f4 k4 c4,.slice f5 lm c5,.slice f6 r D] 26))
   obtain ⟨I,ao⟩:=gQx w5.heap.size
   have bY:Below w5.heap.size w5 Y:=by rw[hY];exact aL _ _
   have kY:Y.heap[I]?=some (.cells #[.int .i64 pn,.slice f1 k1 c1,.slice f2 k2 c2,.slice f3 k3 c3,.slice f4 k4 c4,.slice f5 lm c5,.slice f6 r D] 26 (0,0)):=by rw[hY,ao];exact aX _ _
   rw[<-hY,<-ao]
   have am:Below X.heap.size X Y:=aQ h5.out.1 bY
   have HY:Hid (Below w.heap.size w Y/\Y.heap[I]?=some (.cells #[.int .i64 pn,.slice f1 k1 c1,.slice f2 k2 c2,.slice f3 k3 c3,.slice f4 k4 c4,.slice f5 lm c5,.slice f6 r D] 26 (0,0))/\eJ Y.heap.size Y (eU N) (.slice f1 k1 c1) (.slice f2 k2 c2) (.slice f3 k3 c3) (.slice f4 k4 c4) (.slice f5 lm c5) (.slice f6 r D)/\r≤D/\Nx.jA (· < I) Y (.slice f6 r D) (eU N).code):=⟨aQ HX.out.1 am,kY,h5.out.2.1.below bY bY.size,h5.out.2.2,h5.out.2.1.c.carry fun b hb hl=>⟨by rw[ao];exact hb,bY.block b hl⟩⟩
   have cz:Hid (w.heap.size≤I):=by have:=h5.out.1.size;have:=HX.out.1.size;unfold Hid;omega
   have kX:=aD am HX.out.2.1
   have ae:=Nx.Dx (w:=Y) (n:=N) (m:=eU N) (rows:=rows) au HM.out.2.1 (X3 HM.out.2.1) (HM.out.1.below am am.size) HY.out.2.2.1 (HX.out.2.2.below am) (X2 HM.out.2.1 rows _) rfl rfl
   rw[show (eU N).places=pn from bq.out.symm,<-bq.out,<-di.out] at ae
   obtain ⟨x0,x1,x2,x3,x4,x5,x6⟩:=Nx.lJ kX
   obtain ⟨y0,y1,y2,y3,y4,y5,y6⟩:=Nx.lJ kY
   have dd:Hid (Y.heap[q]?=some (.cells #[.int .i64 pn,.slice g1 m1 d1,.slice g2 m2 d2,.slice g3 m3 d3,.slice g4 m4 d4,.slice g5 m5 d5,.slice g6 m6 d6] 26 (0,0))):=kX
   clear hY ao bY kY am kX h5
   have dc:¬m6<r:=by have:=HM.out.2.2.2.2;omega
   go_upto_if 50 with (go_at_call 10;refine ae.mono ?_;rintro e w6 ⟨rfl,h6⟩;obtain ⟨-,-,-,-,-,-,t6⟩:=Nx.lJ (aD h6.out dd.out);obtain ⟨-,-,-,-,-,u5,u6⟩:=Nx.lJ (aD h6.out HY.out.2.1))
   have H6:Hid (Below w.heap.size w w6/\Below Y.heap.size Y w6/\w6.heap[I]?=some (.cells #[.int .i64 pn,.slice f1 k1 c1,.slice f2 k2 c2,.slice f3 k3 c3,.slice f4 k4 c4,.slice f5 lm c5,.slice f6 r D] 26 (0,0))):=⟨aQ HY.out.1 h6.out,h6.out,aD h6.out HY.out.2.1⟩
   clear x0 x1 x2 x3 x4 x5 x6 y0 y1 y2 y3 y4 y5 y6 h6 ae
   go_upto_if 54 with fail
   have dl:Hid (Nx.jA (· < I) Y (.slice f6 r D) (eU N).code/\r≤D):=⟨HY.out.2.2.2.2,HY.out.2.2.2.1⟩
   have dm:r≤4000:=by have:=HM.out.2.1.c;have:=HM.out.2.2;omega
   obtain ⟨ad,U,oC,cap,hv,bv,cn⟩:=HY.out.2.2.2.2
   injection hv with hv1 hv2 hv3
   subst hv1 hv3
   have bz:0<r->U<I:=fun h=>(bv (by omega)).2
   have cc:Hid (∀W:World,(∀b,b<I->b<Y.heap.size->W.heap[b]?=Y.heap[b]?)->∀j,j<r->W.cell? ⟨U,oC+j*5,none⟩=some (.int .i64 ((eU N).code.getD j Nx.eD).code)/\W.cell? ⟨U,oC+j*5+1,none⟩=some (.int .i64 ((eU N).code.getD j Nx.eD).dst)/\W.cell? ⟨U,oC+j*5+2,none⟩=some (.int .i64 ((eU N).code.getD j Nx.eD).a)/\W.cell? ⟨U,oC+j*5+3,none⟩=some (.int .i64 ((eU N).code.getD j Nx.eD).b)/\W.cell? ⟨U,oC+j*5+4,none⟩=some (.int .i64 ((eU N).code.getD j Nx.eD).c)):=fun W hW j hj=>by
    obtain ⟨p0,p1,p2,p3,p4⟩:=cn j (by omega)
    have hb:=hW U (bz (by omega)) (cC p0)
    have e:∀o,W.cell? ⟨U,o,none⟩=Y.cell? ⟨U,o,none⟩:=fun o=>aY6 (w:=Y) hb
    exact ⟨(e _).trans p0,(e _).trans p1,(e _).trans p2,(e _).trans p3,(e _).trans p4⟩
   have cp:Hid (0<r->f6=some ⟨U,oC,none⟩):=fun h=>(bv (by omega)).1
   have ao:=aB H6.out.2.2
   have ar:=dl.out.2
   have dh:Hid (r=(eU N).code.length):=HM.out.2.2.2.1
   clear bv cn hv2 bz t6 u5 dc
   by_cases hbig:150<r
   case' pos=>
    obtain rfl:=cp.out (by omega)
    have dk:=aG H6.out.2.2 6
    have cj:150≤D:=by omega
    have al:Hid (Below w.heap.size w (w6.setCell ⟨I,6,none⟩ (.slice (some ⟨U,oC,none⟩) 150 D))/\(∀b,b<I->b<Y.heap.size->(w6.setCell ⟨I,6,none⟩ (.slice (some ⟨U,oC,none⟩) 150 D)).heap[b]?=Y.heap[b]?)/\(w6.setCell ⟨I,6,none⟩ (.slice (some ⟨U,oC,none⟩) 150 D)).heap[I]?=some (.cells #[.int .i64 pn,.slice f1 k1 c1,.slice f2 k2 c2,.slice f3 k3 c3,.slice f4 k4 c4,.slice f5 lm c5,.slice (some ⟨U,oC,none⟩) 150 D] 26 (0,0))/\150≤r):=by
     refine ⟨H6.out.1.setCell (p:=⟨I,6,none⟩) (by have:=HY.out.2.2.2.2;have:=cz.out;show w.heap.size≤I;omega) _,fun b hb hl=>?_,cH (l:=[.int .i64 pn,.slice f1 k1 c1,.slice f2 k2 c2,.slice f3 k3 c3,.slice f4 k4 c4,.slice f5 lm c5,.slice (some ⟨U,oC,none⟩) r D]) H6.out.2.2 6 _,by omega⟩
     rw[Below.heap_setCell _ _ _ _ (by show b≠I;omega)]
     exact H6.out.2.1.block b hl
    obtain ⟨Z,hZ⟩:=gQx (w6.setCell ⟨I,6,none⟩ (.slice (some ⟨U,oC,none⟩) 150 D))
    rw[<-hZ] at al
    obtain ⟨L,hL⟩:∃L:Nat,L=150:=⟨_,rfl⟩
    obtain ⟨AD,ah⟩:∃AD:Option Addr,AD=some ⟨U,oC,none⟩:=⟨_,rfl⟩
    have HZ:=al
    rw[<-hL,<-ah] at HZ
    have HA:Hid (0<L->AD=some ⟨U,oC,none⟩):=fun _=>ah
    clear al ah
    go_upto_region 13 with fail
    rw[<-hZ]
    clear hZ hL dk u6 cj
   case' neg=>
    have al:Hid (Below w.heap.size w w6/\(∀b,b<I->b<Y.heap.size->w6.heap[b]?=Y.heap[b]?)/\w6.heap[I]?=some (.cells #[.int .i64 pn,.slice f1 k1 c1,.slice f2 k2 c2,.slice f3 k3 c3,.slice f4 k4 c4,.slice f5 lm c5,.slice f6 r D] 26 (0,0))/\r≤r):=⟨H6.out.1,fun b _ hl=>H6.out.2.1.block b hl,H6.out.2.2,aO4 _⟩
    obtain ⟨L,hL⟩:=gQx r
    obtain ⟨AD,ah⟩:=gQx f6
    obtain ⟨Z,hZ⟩:=gQx w6
    have HZ:Hid (Below w.heap.size w Z/\(∀b,b<I->b<Y.heap.size->Z.heap[b]?=Y.heap[b]?)/\Z.heap[I]?=some (.cells #[.int .i64 pn,.slice f1 k1 c1,.slice f2 k2 c2,.slice f3 k3 c3,.slice f4 k4 c4,.slice f5 lm c5,.slice AD L D] 26 (0,0))/\L≤r):=by rw[hL,ah,hZ];exact al
    have HZ:=HZ.out
    have HA:Hid (0<L->AD=some ⟨U,oC,none⟩):=by rw[hL,ah];exact cp.out
    clear al hL ah
    go_upto_region 13 with fail
    rw[<-hZ]
    clear hZ u6
   all_goals
    have dn:L≤4000:=by have:=HZ.2.2.2;omega
    have O:Hid (Below w.heap.size w Z/\(∀b,b<I->b<Y.heap.size->Z.heap[b]?=Y.heap[b]?)/\Z.heap[I]?=some (.cells #[.int .i64 pn,.slice f1 k1 c1,.slice f2 k2 c2,.slice f3 k3 c3,.slice f4 k4 c4,.slice f5 lm c5,.slice AD L D] 26 (0,0))/\L≤r):=HZ
    clear HZ hbig ar
    go_wp2_with fail
    go_loopw [10] (fun i wr=>∃k:Nat,k≤L/\i=.int .i64 k/\Hid (Below Z.heap.size Z wr)) (fun i _=>L-(intOf i).toNat)
    case atStart=>exact ⟨0,aP6 _,rfl,Below.refl _ _⟩
    case round=>
     obtain ⟨i,hi,rfl,HI⟩:=hrel
     have kq:=aD HI.out O.out.2.2.1
     obtain ⟨-,-,-,-,-,-,b6⟩:=Nx.lJ kq
     by_cases hlt:i<L
     ·obtain ⟨Q,J,xa,xb,xe,hx⟩:∃Q J xa xb xe,(eU N).code.getD i Nx.eD=⟨Q,J,xa,xb,xe⟩:=⟨_,_,_,_,_,rfl⟩
      have cr:=Nx.Sf AD U oC L D i hlt HA.out
      obtain ⟨p0,p1,p2,p3,p4⟩:=cc.out wr (fun b hb hl=>(HI.out.block b (by have:=aB O.out.2.2.1;omega)).trans (O.out.2.1 b hb hl)) i (by have:=O.out.2.2.2;omega)
      rw[hx] at p0 p1 p2 p3 p4
      obtain ⟨V1,ba⟩:=gQx (wr.alloc (.cells #[.int .i64 Q,.int .i64 J,.int .i64 xa,.int .i64 xb,.int .i64 xe] 38))
      obtain ⟨p,hp⟩:=gQx wr.heap.size
      have ck:Below wr.heap.size wr V1:=by rw[ba];exact aL _ _
      have bu:V1.heap[p]?=some (.cells #[.int .i64 Q,.int .i64 J,.int .i64 xa,.int .i64 xb,.int .i64 xe] 38 (0,0)):=by rw[ba,hp];exact aX _ _
      obtain ⟨v0,v1,v2,v3,v4⟩:=Fw.Ur bu
      have bg:Calls prog 11 #[.agg #[.int .i64 Q,.int .i64 J,.int .i64 xa,.int .i64 xb,.int .i64 xe]] V1 fun e w'=>∃aA nA cA,e=.returned (.slice aA nA cA)/\Hid (bH (fun b=>V1.heap.size≤b) w' (.slice aA nA cA) (aN3 ⟨Q,J,xa,xb,xe⟩)/\Below V1.heap.size V1 w'):=
       (Nx.nI Q J xa xb xe V1).mono fun e w' ⟨v,he,hin,hb⟩=>by
        obtain ⟨aA,_,_,cA,rfl,_⟩:=id hin
        exact ⟨aA,_,cA,he,hin,hb⟩
      have HX:Hid ((eU N).code.getD i Nx.eD=⟨Q,J,xa,xb,xe⟩/\i<L):=⟨hx,hlt⟩
      have br:Hid (Below Z.heap.size Z V1/\V1.heap[p]?=some (.cells #[.int .i64 Q,.int .i64 J,.int .i64 xa,.int .i64 xb,.int .i64 xe] 38 (0,0))):=⟨aQ HI.out ck,bu⟩
      clear hx ck bu kq
      go_upto_region 17 with fail
      rw[<-ba,<-hp]
      clear ba hp
      go_upto_region 18 with (go_at_call 11;refine bg.mono ?_;rintro e w7 ⟨aA,nA,cA,rfl,h7⟩;clear bg)
      have H7:Hid (Below Z.heap.size Z w7/\w7.heap[p]?=some (.cells #[.int .i64 Q,.int .i64 J,.int .i64 xa,.int .i64 xb,.int .i64 xe] 38 (0,0))/\bH (fun b=>V1.heap.size≤b) w7 (.slice aA nA cA) (aN3 ⟨Q,J,xa,xb,xe⟩)/\(aN3 ⟨Q,J,xa,xb,xe⟩).length≤3):=⟨aQ br.out.1 h7.out.2,aD h7.out.2 br.out.2,h7.out.1,E3 _⟩
      clear h7 v0 v1 v2 v3 v4 p0 p1 p2 p3 p4 b6 cr br HI
      go_wp2_with fail
      go_loopw [13] (fun j cw=>∃k:Nat,i+1≤k/\k≤L/\j=.int .i64 k/\Hid (Below w7.heap.size w7 cw/\∀j',i<j'->j'<k->((eU N).code.getD j' Nx.eD).dst≠J/\¬((eU N).code.getD j' Nx.eD).dst∈aN3 ⟨Q,J,xa,xb,xe⟩)) (fun j _=>L-(intOf j).toNat)
      case atStart=>exact ⟨i+1,aO4 _,by omega,by go_num,Below.refl _ _,fun j' h1 h2=>absurd h2 (by omega)⟩
      case round=>
       obtain ⟨k,bm,dq,rfl,aj⟩:=hrel
       have ay:Hid (Below Z.heap.size Z wr):=aQ H7.out.1 aj.out.1
       have bi:=aD ay.out O.out.2.2.1
       obtain ⟨-,-,-,-,-,-,b6⟩:=Nx.lJ bi
       obtain ⟨v0,v1,v2,v3,v4⟩:=Fw.Ur (aD aj.out.1 H7.out.2.1)
       have aa:Hid (Below Z.heap.size Z wr):=ay.out
       by_cases hlk:k<L
       ·by_cases hc2:Q=2
        ·have t2:(Q != 2)=false:=by simp[hc2]
         clear hc2
         go_wp2_with fail
         go_roundw
         case rel=>exact ⟨i+1,by omega,by go_num,aa.out⟩
         case measure=>simp[intOf];omega
        ·have t2:(Q != 2)=true:=by simpa using hc2
         have an:=wB (w:=wr) J (H7.out.2.2.1.carry (A':=fun _=>True) fun b _ hl=>⟨trivial,aj.out.1.block b hl⟩) (by have:=H7.out.2.2.2;omega)
         by_cases hda:J∈aN3 ⟨Q,J,xa,xb,xe⟩
         ·rw[decide_eq_true hda] at an
          clear hda
          go_wp2_with (go_at_call 12;refine an.mono ?_;rintro e w8 ⟨rfl,ai⟩;obtain rfl:=ai.symm;clear an)
          go_roundw
          case rel=>exact ⟨i+1,by omega,by go_num,aa.out⟩
          case measure=>simp[intOf];omega
         ·rw[decide_eq_false hda] at an
          obtain ⟨yc,yd,ya,yb,ye,hy⟩:∃yc yd ya yb ye,(eU N).code.getD k Nx.eD=⟨yc,yd,ya,yb,ye⟩:=⟨_,_,_,_,_,rfl⟩
          have ci:=Nx.Sf AD U oC L D k hlk HA.out
          obtain ⟨p0,p1,p2,p3,p4⟩:=cc.out wr (fun b hb hl=>(ay.out.block b (by have:=aB O.out.2.2.1;omega)).trans (O.out.2.1 b hb hl)) k (by have:=O.out.2.2.2;omega)
          rw[hy] at p0 p1 p2 p3 p4
          have ct:Hid (¬(yc=Q/\ya=xa/\yb=xb/\ye=xe)):=by
           rintro ⟨r0,r1,r2,r3⟩
           refine uA HM.out.2.1 (i:=i) (k:=k) (by omega) (by have:=O.out.2.2.2;have:=dh.out;omega) ⟨by rw[HX.out.1];exact hc2,by rw[HX.out.1];exact hda,fun j h1 h2=>by rw[HX.out.1];exact aj.out.2 j h1 h2⟩ ?_
           rw[HX.out.1,hy]
           exact ⟨r0,r1,r2,r3⟩
          have cv:Hid ((eU N).code.getD k Nx.eD=⟨yc,yd,ya,yb,ye⟩):=hy
          obtain ⟨V2,az⟩:=gQx (wr.alloc (.cells #[.int .i64 yc,.int .i64 yd,.int .i64 ya,.int .i64 yb,.int .i64 ye] 38))
          obtain ⟨py,bo⟩:=gQx wr.heap.size
          have bc:Below wr.heap.size wr V2:=by rw[az];exact aL _ _
          have cg:V2.heap[py]?=some (.cells #[.int .i64 yc,.int .i64 yd,.int .i64 ya,.int .i64 yb,.int .i64 ye] 38 (0,0)):=by rw[az,bo];exact aX _ _
          have bw:Hid (Below w7.heap.size w7 V2):=aQ aj.out.1 bc
          have aa:Hid (Below Z.heap.size Z V2):=aQ ay.out bc
          have af:=wB (w:=V2) yd (H7.out.2.2.1.carry (A':=fun _=>True) fun b _ hl=>⟨trivial,bw.out.block b hl⟩) (by have:=H7.out.2.2.2;omega)
          have cx:=Fw.Ur cg
          have de:=Fw.Ur (aD bc (aD aj.out.1 H7.out.2.1))
          clear hy hda hc2 bc cg bi
          go_upto_region 21 with (go_at_call 12;refine an.mono ?_;rintro e w8 ⟨rfl,ai⟩;obtain rfl:=ai.symm;clear an)
          go_upto_region 22 with fail
          rw[<-az,<-bo]
          clear az bo v0 v1 v2 v3 v4 p0 p1 p2 p3 p4 b6 ci
          obtain ⟨y0,y1,y2,y3,y4⟩:=cx
          obtain ⟨v0,v1,v2,v3,v4⟩:=de
          by_cases q0:yc=Q
          rotate_left
          have e0:(yc==Q)=false:=by simp[q0]
          rotate_left
          have e0:(yc==Q)=true:=by simp[q0]
          by_cases q1:ya=xa
          rotate_left
          have e1:(ya==xa)=false:=by simp[q1]
          rotate_left 2
          have e1:(ya==xa)=true:=by simp[q1]
          by_cases q2:yb=xb
          rotate_left
          have e2:(yb==xb)=false:=by simp[q2]
          rotate_left 3
          have e2:(yb==xb)=true:=by simp[q2]
          have e3:(ye==xe)=false:=by
           have q3:¬ye=xe:=fun q3=>ct.out ⟨q0,q1,q2,q3⟩
           simp[q3]
          all_goals
           clear q0
           try clear q1
           try clear q2
           go_upto_region 24 with fail
           by_cases hyd:yd=J
           ·have q9:(yd==J)=true:=by simp[hyd]
            clear hyd af
            go_wp2_with fail
            go_roundw
            case rel=>exact ⟨i+1,by omega,by go_num,aa.out⟩
            case measure=>simp[intOf];omega
           ·have q9:(yd==J)=false:=by simp[hyd]
            by_cases hya:yd∈aN3 ⟨Q,J,xa,xb,xe⟩
            ·rw[decide_eq_true hya] at af
             clear hya hyd
             go_wp2_with (go_at_call 12;refine af.mono ?_;rintro e w8 ⟨rfl,ai⟩;obtain rfl:=ai.symm;clear af)
             go_roundw
             case rel=>exact ⟨i+1,by omega,by go_num,aa.out⟩
             case measure=>simp[intOf];omega
            ·rw[decide_eq_false hya] at af
             have cd:Hid (yd≠J/\¬yd∈aN3 ⟨Q,J,xa,xb,xe⟩):=⟨hyd,hya⟩
             clear hya hyd
             go_wp2_with (go_at_call 12;refine af.mono ?_;rintro e w8 ⟨rfl,ai⟩;obtain rfl:=ai.symm;clear af)
             go_roundw
             case rel=>exact ⟨k+1,by omega,by omega,by go_num,bw.out,fun j cy dp=>by
              by_cases e:j=k
              ·rw[e,cv.out];exact cd.out
              ·exact aj.out.2 j cy (by omega)⟩
             case measure=>simp[intOf];omega
       ·obtain rfl:k=L:=by omega
        clear bi
        go_wp2_with fail
        go_roundw
        case rel=>exact ⟨i+1,by omega,by go_num,aa.out⟩
        case measure=>simp[intOf];omega
     ·obtain rfl:i=L:=by omega
      go_wp2_with fail
      go_ret
      exact ⟨rfl,O.out.1.trans (HI.out.mono O.out.1.size)⟩
end
end Sx
end
section
open Go.RowKit
namespace Nx
section
variable {H:Type}{enc:TypeId×Value->H}{W:World}{sp:Nat->Bool}{held:Bool}
theorem V0 (m:Nat) (p:Nat->List Int->Prop) (h:∀i,i<m->∃z,p i z):∃l:List (List Int),l.length=m/\∀i,i<m->p i (l.getD i []):=by
 induction m with
 | zero=>exact ⟨[],rfl,fun i j=>by omega⟩
 | succ m ih=>
  obtain ⟨l,c,k⟩:=ih (fun i j=>h i (by omega))
  obtain ⟨z,n⟩:=h m (by omega)
  refine ⟨l++[z],by simp[c],fun i j=>?_⟩
  by_cases e:i<m
  ·have:(l++[z]).getD i []=l.getD i []:=by simp[List.getD_eq_getElem?_getD,List.getElem?_append_left (show i<l.length by omega)]
   rw[this];exact k i e
  ·obtain rfl:i=m:=by omega
   have:(l++[z]).getD i []=z:=by subst c;simp[List.getD_eq_getElem?_getD]
   rw[this];exact n
theorem K0 {fuel:Nat}{v:Value}{x:DataW H×List MemPlace}(Q:prog.cellsOf 22=1) (O:prog.cellsOf 2=1)
    (h:DataW.trod enc prog W 0 sp held fuel 27 [v]=some x):∃(rows:List (List Int)) (ad:Option Addr) (b c cap:Nat),v=.slice ad rows.length cap/\(0<rows.length->ad=some ⟨b,c,none⟩/\b<W.heap.size)/\
     (∀k,k<rows.length->∃u,W.cell? ⟨b,c+k,none⟩=some u/\bH (· < W.heap.size) W u (rows.getD k [])):=by
 rcases Deep.open_slice1 Tryz.underlying27 Q h with ⟨r,_⟩|⟨a,len,cap,m,n,V,D,Pl,r,_,Z,hm,I,_,hx⟩
 ·obtain rfl:v=.slice none 0 0:=by simpa using r
  exact ⟨[],none,0,0,0,rfl,fun h=>by simp at h,fun k J=>by simp at J⟩
 ·obtain rfl:v=.slice (some a) len cap:=by simpa using r
  have Y:len≤m:=by rw[I];split<;>omega
  obtain ⟨rows,y,X⟩:=V0 len (fun i z=>bH (· < W.heap.size) W (V i) z) (fun i e=>by
   obtain ⟨zs,U,_⟩:=iT Tryz.underlying22 Tryz.underlying2 O (hx i (by omega)).2
   exact ⟨zs,U⟩)
  by_cases h0:len=0
  ·exact ⟨rows,some a,0,0,cap,by rw[y],fun h=>by omega,fun k J=>by omega⟩
  ·obtain ⟨b,c,s⟩:=a
   have j:=(hx 0 (by omega)).1
   have l:s=none:=by simpa [Addr.add] using World.cell?_spot j
   subst l
   refine ⟨rows,some ⟨b,c,none⟩,b,c,cap,by rw[y],fun _=>⟨rfl,?_⟩,fun k J=>⟨V k,?_,X k (by omega)⟩⟩
   ·rw[qC] at j;exact cC j
   ·have:=(hx k (by omega)).1
    rw[qC] at this
    exact this
end
end Nx
end
end Go.Proofs.YthieaobjdpfcoaaGreatDoor
