import Derived.Test.YthieaobjdpfcoaaGreatDoorVEa
set_option maxRecDepth 100000
set_option maxHeartbeats 2000000
namespace Go.Proofs.YthieaobjdpfcoaaGreatDoor
open Go.Proofs.Tryz (prog)
section
open Go.RowKit Px
namespace Ew
open Px.Em (Kd Vr)
open Nx (Nt Sp)
theorem Im:(prog.info? 2).map (fun i=>(i.zero,i.size,i.bytes))=some (some (.int .i64 0),1,8):=by kernel_rfl
theorem Sk:(prog.info? 3).map (fun i=>(i.zero,i.size,i.bytes))=some (some (.int .i64 0),1,8):=by kernel_rfl
theorem Sj:(prog.info? 38).map (fun i=>(i.zero,i.size,i.bytes))=some (some (.agg #[.int .i64 0,.int .i64 0,.int .i64 0,.int .i64 0,.int .i64 0]),5,40):=by kernel_rfl
def aU (k:Kd) (x:Int):Kd:={ k with net:={ k.net with first:=k.net.first++[x],places:=k.net.places+1 } }
theorem Af (k:Kd) (x:Int):Em.place x k=some (k.net.places,aU k x):=rfl
def bF (k:Kd) (p:Int):Kd:={ k with net:={ k.net with keeps:=k.net.keeps++[p] } }
theorem Ii (k:Kd) (x:Int):Em.kept x k=some (k.net.places,bF (aU k x) k.net.places):=rfl
def added (k:Kd) (s:Sp):Kd:={ k with net:={ k.net with code:=k.net.code++[s] } }
section
variable {P:Nat->Prop}{w:World}{kb E:Nat}{ns:List bE}{k:Kd}
theorem rQ.place {x:Int}(h:rQ E ns k) (n:E<1000000) (hx:jF x):rQ (E+1) ns (aU k x):=by
 have c:(aU k x).net.first.length=k.net.first.length+1:=by simp[aU]
 have r:=h.pot
 refine ⟨?_,?_,h.code,?_,?_,?_,h.nums,by omega,fun y l=>?_,h.nn,h.vf,h.out⟩
 ·show k.net.places+1=_
  rw[c,h.len];simp
 ·rw[c];show _+yP ns k≤k.net.code.length+_;omega
 ·rw[c];have:=h.keeps;show k.net.keeps.length≤_;omega
 ·rw[c];have:=h.ins;show k.net.ins.length≤_;omega
 ·rw[c];have:=h.outs;show k.net.outs.length≤_;omega
 ·rcases aR2.1 l with j|j
  ·exact h.nf y j
  ·rw[aP5.1 j];exact hx
theorem rQ.few (h:rQ E ns k):k.net.first.length≤1004000:=by have:=h.pot;have:=h.code;have:=h.e;omega
theorem rQ.kept {x p:Int}(h:rQ E ns k) (j:E<1000000) (hx:jF x):rQ (E+1) ns (bF (aU k x) p):=by
 have c:=h.place j hx
 refine ⟨c.len,c.pot,c.code,?_,c.ins,c.outs,c.nums,c.e,c.nf,c.nn,c.vf,c.out⟩
 have:=h.keeps
 simp only[bF,aU,aO9,aV8,aX9]
 omega
theorem rQ.add {E':Nat}{s:Sp}(h:rQ E' ns k) (n:E'≤E+1) (c:E≤1000000) (r:k.net.code.length<4000):rQ E ns (added k s):=by
 have j:(added k s).net.code.length=k.net.code.length+1:=by simp[added]
 have l:=h.pot
 have u:=h.nums
 refine ⟨h.len,?_,by omega,h.keeps,h.ins,h.outs,?_,c,h.nf,h.nn,h.vf,h.out⟩
 ·rw[j];show k.net.first.length+yP ns k≤_;omega
 ·rw[j];show k.net.nums.length≤_;omega
theorem uX {x:Int}(h:eK E ns P w kb k) (hE:E<1000000) (hx:jF x) :
 Calls prog 114 #[.pointer (some ⟨kb,0,none⟩),.int .i64 x] w fun e w'=>e=.returned (.int .i64 k.net.places)/\Hid (eK (E+1) ns (Up P w w') w' kb (aU k x)/\bM P w w'):=by
 obtain ⟨⟨c,J⟩,O,X⟩:=h
 obtain ⟨i0,hi,Y,aa,ab⟩:=aZ1 Im
 have Q:w.ownsRow 0 2 1 (c.v 1) k.net.first.length (k.net.first.map (Value.int .i64)):=J.row 1 (by omega) (by omega)
 obtain ⟨ao,cap,I⟩:=aP Q
 have c1:=J.cell 1 (u:=c.v 1) rfl
 have HC:Hid (_/\_/\_):=⟨J,O,I⟩
 rw[I] at c1 Q
 have hl:=O.few
 have hp:0≤k.net.places/\k.net.places≤1004000:=by have:=O.len;omega
 obtain ⟨p,l⟩:=gQx k.net.places
 have HP:Hid _:=l
 rw[<-l] at hp
 have y:=J.hk
 rw[<-l] at y
 rw[<-l]
 obtain ⟨n,U⟩:=gQx k.net.first.length
 have HN:Hid _:=U
 rw[<-U] at c1 Q hl
 obtain ⟨af,ac⟩:=hp
 have ag:=aB y
 have HK:Hid (w.heap[kb]?=some (.cells (c.cells p).toArray 135 (0,0))/\∀g,(Value.slice ao n cap).ownBlock=some g->g≠kb):=⟨y,fun g hg e=>by
  have h1:=J.pr 1 g (by omega) (by omega) (by rw[I,<-U];exact hg)
  rw[e,J.p0.2] at h1;exact absurd h1.2 (by omega)⟩
 have ad:IntKind.i64.wrap (p+1)=p+1:=by rw[IntKind.wrap_i64];omega
 have ae:IntKind.i64.wrap (p+1-1)=p:=by rw[IntKind.wrap_i64];omega
 clear J O I l U y
 go_enter Tryz.func114,Tryz.ntmps114
 go_wp2_with (at_builtin;refine wpList_append_own_at _ rfl (.tmp 10) (.tmp 12) 22 rfl 0 2 i0 _ 1 8 Tryz.underlying22 hi Y aa ab rfl (by decide) _ _ _ rfl (Q.alloc _) ⟨w.heap.size,0,none⟩ 1 1 [.int .i64 x] rfl rfl (eN _ _ _) (by intro u hu;simp at hu;subst hu;rfl) (by unfold maxLen;omega) (by omega) (by simp) ?_;intro v5 w5 r s _ Z;obtain ⟨a5,m5,e5⟩:=aP r;subst e5;have D:w5.heap[kb]?=some (.cells (c.cells p).toArray 135 (0,0)):=by { rw[s.block kb (by simp;omega) (fun e=>(HK.out.2 kb e.symm) rfl),eB HK.out.1] };have d0:=aF D 0 (u:=.int .i64 p) rfl;have d1:=aF D 1 (u:=c.v 1) rfl;have f0:=aG D 0;have f1:=aG D 1)
 go_ret
 refine ⟨rfl,?_⟩
 obtain ⟨hC,O,I⟩:=HC.out
 rw[<-HN.out] at I
 obtain ⟨g1,g2⟩:=hC.grow (i:=1) (by omega) (by omega) (w0:=w.alloc (.cells #[.int .i64 x] 2)) (n5:={ k.net with first:=k.net.first++[x] }) (aL _ _) (new:=[.int .i64 x]) (by show World.ownsRow _ _ _ _ _ (k.net.first.length+1) _;rw[<-HN.out];exact r) (by rw[I];exact s) (by rw[I];exact Z) rfl (fun j hj=>by unfold rB pP;split<;>first|exact absurd rfl hj|exact ⟨rfl,rfl⟩) ⟨by simp[rB],by simp[pP]⟩
 obtain ⟨g3,g4⟩:=g1.setP (p+1)
 have e:aU k x={ ({ k with net:={ k.net with first:=k.net.first++[x] } }:Kd) with net:={ ({ k with net:={ k.net with first:=k.net.first++[x] } }:Kd).net with places:=p+1 } }:=by rw[HP.out];rfl
 rw[<-e] at g3
 exact ⟨⟨⟨_,g3.mono (Up.size g4.size)⟩,O.place hE hx,iI X (g2.trans g4 fun b hb hq=>hq.elim id fun h=>absurd h.1 (by omega)).size⟩,g2.trans g4 fun b hb hq=>hq.elim id fun h=>absurd h.1 (by omega)⟩
theorem yX {x:Int}(h:eK E ns P w kb k) (hE:E<1000000) (hx:jF x) :
 Calls prog 115 #[.pointer (some ⟨kb,0,none⟩),.int .i64 x] w fun e w'=>e=.returned (.int .i64 k.net.places)/\Hid (eK (E+1) ns (Up P w w') w' kb (bF (aU k x) k.net.places)/\bM P w w'):=by
 have l:=uX h hE hx
 have HH:Hid (rQ E ns k/\∀b,P b->b<w.heap.size):=h.2
 obtain ⟨i0,hi,Z,ab,ac⟩:=aZ1 Sk
 obtain ⟨p,hp⟩:=gQx k.net.places
 rw[<-hp] at l ⊢
 clear h hp
 go_enter Tryz.func115,Tryz.ntmps115
 go_upto_region 2 with (go_at_call 114;refine l.mono ?_;rintro e w1 ⟨rfl,U⟩)
 obtain ⟨⟨⟨c,J⟩,hF,ad⟩,r⟩:=U.out
 have X:w1.ownsRow 0 3 1 (c.v 4) (aU k x).net.keeps.length ((aU k x).net.keeps.map (Value.int .i64)):=J.row 4 (by omega) (by omega)
 obtain ⟨ao,cap,D⟩:=aP X
 have c1:=J.cell 4 (u:=c.v 4) rfl
 have HC:Hid (_/\_/\_):=⟨J,D,r⟩
 rw[D] at c1 X
 have hl:=hF.few
 have O:=hF.keeps
 obtain ⟨n,Y⟩:=gQx ((aU k x).net.keeps.length)
 have HN:Hid _:=Y
 rw[<-Y] at c1 X O
 have I:=J.hk
 have af:=aB I
 have HK:Hid (w1.heap[kb]?=some (.cells (c.cells (aU k x).net.places).toArray 135 (0,0))/\∀g,(Value.slice ao n cap).ownBlock=some g->g≠kb):=⟨I,fun g hg e=>by
  have U:=J.pr 4 g (by omega) (by omega) (by rw[D,<-Y];exact hg)
  rw[e,J.p0.2] at U;exact absurd U.2 (by omega)⟩
 have ae:n≤1004000:=by omega
 clear J hF D Y I hl O r U l
 go_wp2_with (at_builtin;refine wpList_append_own_at _ rfl (.tmp 14) (.tmp 16) 23 rfl 0 3 i0 _ 1 8 Tryz.underlying23 hi Z ab ac rfl (by decide) _ _ _ rfl (X.alloc _) ⟨w1.heap.size,0,none⟩ 1 1 [.int .i64 p] rfl rfl (eN _ _ _) (by intro u hu;simp at hu;subst hu;rfl) (by unfold maxLen;omega) (by omega) (by simp) ?_;intro v5 w5 s y _ aa;obtain ⟨a5,m5,e5⟩:=aP s;subst e5;have Q:w5.heap[kb]?=some (.cells (c.cells (aU k x).net.places).toArray 135 (0,0)):=by { rw[y.block kb (by simp;omega) (fun e=>(HK.out.2 kb e.symm) rfl),eB HK.out.1] };have d1:=aF Q 4 (u:=c.v 4) rfl;have f1:=aG Q 4)
 go_ret
 refine ⟨rfl,?_⟩
 obtain ⟨hC,D,r⟩:=HC.out
 rw[<-HN.out] at D
 obtain ⟨g1,g2⟩:=hC.grow (i:=4) (by omega) (by omega) (w0:=w1.alloc (.cells #[.int .i64 p] 3)) (n5:=(bF (aU k x) p).net) (aL _ _) (new:=[.int .i64 p]) (by show World.ownsRow _ _ _ _ _ ((aU k x).net.keeps.length+1) _;rw[<-HN.out];exact s) (by rw[D];exact y) (by rw[D];exact aa) rfl (fun j hj=>by unfold rB pP;split<;>first|exact absurd rfl hj|exact ⟨rfl,rfl⟩) ⟨by simp[rB,bF],by simp[pP,bF]⟩
 exact ⟨⟨⟨_,g1.mono (Up.up r.size g2.size)⟩,HH.out.1.kept hE hx,iI HH.out.2 (r.up g2).size⟩,r.up g2⟩
theorem X8 (s:Sp) (h:eK E ns P w kb k) (I:4000≤k.net.code.length) :
 Calls prog 119 #[.pointer (some ⟨kb,0,none⟩),.agg #[.int .i64 s.code,.int .i64 s.dst,.int .i64 s.a,.int .i64 s.b,.int .i64 s.c]] w fun e w'=>e=Vl/\Hid (bM P w w'):=by
 obtain ⟨⟨c,l⟩,J,O⟩:=h
 have r:w.ownsRow 0 38 5 (c.v 6) k.net.code.length (k.net.code.flatMap rS):=l.row 6 (by omega) (by omega)
 obtain ⟨X,cap,D⟩:=aP r
 have c1:=l.cell 6 (u:=c.v 6) rfl
 rw[D] at c1
 have Q:=aB l.hk
 have U:∀(v:Value) (w:World),(Instr.panic (.iface 86 v)).run prog w=.halt (.panic (.iface 86 v)) w:=fun _ _=>rfl
 have j:=J.code
 obtain ⟨n,y⟩:=gQx k.net.code.length
 rw[<-y] at c1 I j
 obtain rfl:n=4000:=by omega
 clear l J r D y I j
 go_enter Tryz.func119,Tryz.ntmps119
 go_wp2
 exact ⟨rfl,rfl,(bM.refl _ _).alloc _⟩
theorem Gz {E':Nat}(s:Sp) (h:eK E' ns P w kb k) (hE:E'≤E+1) (ae:E≤1000000) (hc:k.net.code.length<4000) :
 Calls prog 119 #[.pointer (some ⟨kb,0,none⟩),.agg #[.int .i64 s.code,.int .i64 s.dst,.int .i64 s.a,.int .i64 s.b,.int .i64 s.c]] w fun e w'=>e=.returned (.tuple #[])/\Hid (eK E ns (Up P w w') w' kb (added k s)/\bM P w w'):=by
 obtain ⟨i0,hi,aa,ac,ad⟩:=aZ1 Sj
 obtain ⟨W,Z⟩:=gQx (w.alloc (.cells #[.int .i64 s.code,.int .i64 s.dst,.int .i64 s.a,.int .i64 s.b,.int .i64 s.c] 38))
 have r:Below w.heap.size w W:=by rw[Z];exact aL _ _
 have l:W.heap[w.heap.size]?=some (.cells #[.int .i64 s.code,.int .i64 s.dst,.int .i64 s.a,.int .i64 s.b,.int .i64 s.c] 38 (0,0)):=by rw[Z];exact aX w _
 obtain ⟨q,U⟩:=gQx w.heap.size
 rw[<-U] at l
 obtain ⟨⟨c,y⟩,hF,I⟩:=h
 have y:=y.below r
 have hr:W.ownsRow 0 38 5 (c.v 6) k.net.code.length (k.net.code.flatMap rS):=y.row 6 (by omega) (by omega)
 obtain ⟨ao,cap,J⟩:=aP hr
 have c1:=y.cell 6 (u:=c.v 6) rfl
 have HC:Hid (CM P W kb k c/\rQ E' ns k/\c.v 6=.slice ao k.net.code.length cap/\Below w.heap.size w W/\∀b,P b->b<w.heap.size):=⟨y,hF,J,r,I⟩
 rw[J] at c1 hr
 obtain ⟨n,hn⟩:=gQx k.net.code.length
 have HN:Hid _:=hn
 rw[<-hn] at c1 hr
 have ah:(n:Int)<4000:=by omega
 have O:=y.hk
 have aj:=aB O
 have HK:Hid (W.heap[kb]?=some (.cells (c.cells k.net.places).toArray 135 (0,0))/\∀g,(Value.slice ao n cap).ownBlock=some g->g≠kb):=⟨O,fun g hg e=>by
  have h1:=y.pr 6 g (by omega) (by omega) (by rw[J,<-hn];exact hg)
  rw[e,y.p0.2] at h1;exact absurd h1.2 (by omega)⟩
 have q0:=aF l 0 (u:=.int .i64 s.code) rfl
 have q1:=aF l 1 (u:=.int .i64 s.dst) rfl
 have q2:=aF l 2 (u:=.int .i64 s.a) rfl
 have q3:=aF l 3 (u:=.int .i64 s.b) rfl
 have q4:=aF l 4 (u:=.int .i64 s.c) rfl
 have HL:Hid _:=hc
 clear y hF J hn O r l hc I
 go_enter Tryz.func119,Tryz.ntmps119
 go_upto_region 1 with fail
 rw[<-Z,<-U]
 have ai:=U.symm
 clear Z U
 go_wp2_with fail
 obtain ⟨V,hV⟩:=gQx (W.alloc (.cells #[.int .i64 s.code,.int .i64 s.dst,.int .i64 s.a,.int .i64 s.b,.int .i64 s.c] 38))
 go_region_law (first
  | (refine step_append_lies _ (by rfl) (.tmp 17) (.tmp 19) 24 (by rfl) 0 38 i0 _ 5 40 Tryz.underlying24 hi aa ac ad rfl (by decide) (Value.slice ao n cap) n _ (by rfl) (hr.alloc _) ⟨W.heap.size,0,none⟩ 1 1 (rS s) (by rfl) (by rfl) (eN _ (rS s) _) (by intro u hu;simp[rS] at hu;rcases hu with rfl|rfl|rfl|rfl|rfl<;>rfl) (by omega) (by unfold maxLen;omega) (by omega) (by simp) (W.heap.size+1) (by simp) ?_
     intro g5 af w5 Q D ab ag
     have Y:w5.heap[kb]?=some (.cells (c.cells k.net.places).toArray 135 (0,0)):=by { rw[D.block kb (by simp;omega) (fun e=>(HK.out.2 kb e.symm) rfl)];exact eB HK.out.1 }
     have d1:=aF Y 6 (u:=c.v 6) rfl
     have f1:=aG Y 6))
 all_goals
  go_wp2_with fail
  go_end0
  obtain ⟨y,hF,J,r,I⟩:=HC.out
  rw[<-HN.out] at J
  obtain ⟨g1,g2⟩:=y.grow (i:=6) (by omega) (by omega) (n5:=(added k s).net) (w0:=(W.alloc (.cells #[.int .i64 s.code,.int .i64 s.dst,.int .i64 s.a,.int .i64 s.b,.int .i64 s.c] 38)).drew) ((aL _ _).drew) (new:=rS s) (by show World.ownsRow _ _ _ _ _ (k.net.code.length+1) _;rw[<-HN.out];exact Q) (by rw[J];exact D) (by rw[J];rcases ab with h|h;exact .inl h.symm;exact .inr (by rw[h];simp[Value.ownBlock])) rfl (fun j hj=>by unfold rB pP;split<;>first|exact absurd rfl hj|exact ⟨rfl,rfl⟩) ⟨by simp[rB,added],by simp[pP,added]⟩
  have X:bM P w _:=(bM.of_below r).trans g2 (fun b hb U=>U)
  exact ⟨rfl,⟨⟨_,g1.mono fun b hb=>hb.elim .inl fun h=>.inr ⟨by have:=r.size;omega,h.2⟩⟩,hF.add hE ae HL.out,iI I X.size⟩,X⟩
theorem E9 {c a b d:Int}(h:4000≤k.net.code.length):Em.made c a b d k=none:=by
 unfold Em.made
 rw[bind_some (Af k 0)]
 exact aH (if_pos h)
theorem E8 {c a b d:Int}(h:k.net.code.length<4000):Em.made c a b d k=some (k.net.places,added (aU k 0) ⟨c,k.net.places,a,b,d⟩):=by
 unfold Em.made
 rw[bind_some (Af k 0)]
 exact bind_some (if_neg (show ¬4000≤(aU k 0).net.code.length from by show ¬4000≤k.net.code.length;omega))
theorem gU (c a b d:Int) (h:eK E ns P w kb k) (hE:E<1000000) :
 Calls prog 205 #[.pointer (some ⟨kb,0,none⟩),.agg #[.int .i64 c,.int .i64 0,.int .i64 a,.int .i64 b,.int .i64 d]] w (fJ E ns P kb w k (Em.made c a b d k) (Value.int .i64)):=by
 obtain ⟨W,hW⟩:=gQx (w.alloc (.cells #[.int .i64 c,.int .i64 0,.int .i64 a,.int .i64 b,.int .i64 d] 38))
 have Q:Below w.heap.size w W:=by rw[hW];exact aL _ _
 have Y:W.heap[w.heap.size]?=some (.cells #[.int .i64 c,.int .i64 0,.int .i64 a,.int .i64 b,.int .i64 d] 38 (0,0)):=by rw[hW];exact aX w _
 have n:=uX (x:=0) (h.below Q) hE jF.zero
 obtain ⟨q,J⟩:=gQx w.heap.size
 rw[<-J] at Y
 have I:Hid (_/\_/\_/\_/\¬P q):=⟨Q,h.2.2,J.symm,Y,fun hp=>by have:=h.2.2 q hp;omega⟩
 obtain ⟨p,hp⟩:=gQx k.net.places
 have HP:Hid _:=hp
 rw[<-hp] at n
 clear h Q Y hp
 by_cases hcl:4000≤k.net.code.length
 all_goals
  go_enter Tryz.func205,Tryz.ntmps205
  go_upto_region 1 with fail
  rw[<-hW,<-J]
  clear hW J
  go_upto_region 2 with (go_at_call 114;refine n.mono ?_;rintro e w1 ⟨rfl,U⟩;have y:=U.out.2.heap I.out.2.2.2.1 I.out.2.2.2.2;have d1:=aF y 1 (u:=.int .i64 0) rfl;have f1:=aG y 1)
  obtain ⟨X,O⟩:=gQx (w1.setCell ⟨q,1,none⟩ (.int .i64 p))
  have j:X.heap[q]?=some (.cells #[.int .i64 c,.int .i64 p,.int .i64 a,.int .i64 b,.int .i64 d] 38 (0,0)):=by rw[O];exact cH (l:=[.int .i64 c,.int .i64 0,.int .i64 a,.int .i64 b,.int .i64 d]) y 1 _
  have Z:¬Up P W w1 q:=fun hu=>hu.elim I.out.2.2.2.2 fun h=>by have:=aB I.out.2.2.2.1;omega
  have s:bB (Up P W w1) (Up P W w1) w1 X:=fun b hb hl=>⟨hb,by rw[O];exact Below.heap_setCell _ _ _ _ (fun e=>Z (by have e:b=q:=e;rw[<-e];exact hb))⟩
  have D:eK (E+1) ns (Up P W w1) X kb (aU k 0):=⟨U.out.1.1.imp fun _ h=>h.carry s,U.out.1.2.1,fun b hb=>by rw[O];simp[World.setCell];exact U.out.1.2.2 b hb⟩
  rw[<-O]
  have HX:Hid (bM P w X/\_/\_/\X.heap.size=w1.heap.size/\_):=⟨by rw[O];exact ((bM.of_below I.out.1).trans U.out.2 fun _ _ h=>h).setCell (.inr (by rw[I.out.2.2.1];exact aO4 _)) _,j,Z,by rw[O];simp[World.setCell],U.out.2.size⟩
  have x0:=aF j 0 (u:=.int .i64 c) rfl
  have x1:=aF j 1 (u:=.int .i64 p) rfl
  have x2:=aF j 2 (u:=.int .i64 a) rfl
  have x3:=aF j 3 (u:=.int .i64 b) rfl
  have x4:=aF j 4 (u:=.int .i64 d) rfl
  clear O y d1 f1 j Z s U n
 ·have r:=X8 (E:=E+1) ⟨c,p,a,b,d⟩ D hcl
  clear D
  go_wp2_with (go_at_call 119;refine r.mono ?_;rintro e w2 ⟨rfl,h2⟩)
  exact ⟨rfl,.inl ⟨rfl,E9 hcl,HX.out.1.trans h2.out fun b hb J=>J.elim id fun h=>absurd h.1 (by have:=I.out.1.size;omega)⟩⟩
 ·have r:=Gz (E:=E) (E':=E+1) ⟨c,p,a,b,d⟩ D (aO4 _) (by omega) (by have:=hcl;show k.net.code.length<4000;omega)
  clear D
  go_wp2_with (go_at_call 119;refine r.mono ?_;rintro e w2 ⟨rfl,h2⟩;have ab:=h2.out.2.heap HX.out.2.1 HX.out.2.2.1;have y1:=aF ab 1 (u:=.int .i64 p) rfl)
  go_ret
  have hs:=I.out.1.size
  have ac:=h2.out.2.size
  have aa:bM P w w2:=HX.out.1.trans h2.out.2 fun b hb J=>J.elim id fun h=>absurd h.1 (by omega)
  refine .inr ⟨p,added (aU k 0) ⟨c,p,a,b,d⟩,rfl,?_,h2.out.1.mono (fun b hb=>?_) (iI I.out.2.1 aa.size),aa,?_⟩
  ·rw[HP.out];exact E8 (by have:=hcl;omega)
  ·rcases hb with (hb|hb)|hb
   ·exact .inl hb
   ·exact .inr ⟨by omega,by have:=HX.out.2.2.2.1;omega⟩
   ·exact .inr ⟨by have:=HX.out.2.2.2;omega,hb.2⟩
  ·show k.net.places≤k.net.places+1
   omega
end
section
variable {P:Nat->Prop}{w:World}{kb E:Nat}{ns:List bE}{k:Kd}
theorem fJ.up {α:Type}{w1 w2:World}{k1:Kd}{o o2:Option (α×Kd)}{val:α->Value}{e:Ending}(n:∀b,P b->b<w.heap.size) (h:bM P w w1) (u:k.net.places≤k1.net.places) (l:o=o2) (r:fJ E ns (Up P w w1) kb w1 k1 o2 val e w2):fJ E ns P kb w k o val e w2:=by
 subst l
 rcases r with ⟨rfl,j,c⟩|⟨a,s,rfl,j,c⟩
 ·exact .inl ⟨rfl,j,h.up c.out⟩
 ·exact .inr ⟨a,s,rfl,j,c.out.1.up n h.size c.out.2.1.size,h.up c.out.2.1,by have:=c.out.2.2;omega⟩
theorem fJ.below {α:Type}{w1 w2:World}{o:Option (α×Kd)}{val:α->Value}{e:Ending}(n:∀b,P b->b<w.heap.size) (hb:Below w.heap.size w w1) (r:fJ E ns P kb w1 k o val e w2):fJ E ns P kb w k o val e w2:=by
 rcases r with ⟨rfl,j,c⟩|⟨a,u,rfl,j,c⟩
 ·exact .inl ⟨rfl,j,(bM.of_below hb).trans c.out fun _ _ h=>h⟩
 ·have y:=hb.size
  have l:bM P w w2:=(bM.of_below hb).trans c.out.2.1 fun _ _ h=>h
  exact .inr ⟨a,u,rfl,j,c.out.1.mono (fun b s=>s.elim .inl fun h=>.inr ⟨by omega,h.2⟩) (iI n l.size),l,c.out.2.2⟩
theorem fJ.pure {α:Type}{o:Option (α×Kd)}{val:α->Value}{a:α}(h:eK E ns P w kb k) (ho:o=some (a,k)):fJ E ns P kb w k o val (.returned (val a)) w:=
 .inr ⟨a,k,rfl,ho,h.mono (fun _ h=>.inl h) (fun b hb=>hb.elim (h.2.2 b) fun h=>h.2),bM.refl _ _,Int.le_refl _⟩
def numbered (k:Kd) (n p:Int):Kd:={ k with net:={ k.net with nums:=k.net.nums++[n] },nums:=fun m=>if m=n then some p else k.nums m }
theorem yN {n p:Int}(h:k.nums n=some p):Em.bS n k=some (p,k):=by
 show (match k.nums n with|some p=>(Pure.pure p:Em.M Int)|none=>_) k=_
 rw[h];rfl
theorem wK {n:Int}(h:k.nums n=none) (c:Em.made 1 k.net.nums.length 0 0 k=none):Em.bS n k=none:=by
 show (match k.nums n with|some p=>(Pure.pure p:Em.M Int)|none=>_) k=_
 rw[h]
 exact aH c
theorem wJ {n p:Int}{k1:Kd}(h:k.nums n=none) (c:Em.made 1 k.net.nums.length 0 0 k=some (p,k1)):Em.bS n k=some (p,numbered k1 n p):=by
 show (match k.nums n with|some p=>(Pure.pure p:Em.M Int)|none=>_) k=_
 rw[h]
 exact bind_some c
theorem F4 {c a b d p:Int}{k1:Kd}(h:Em.made c a b d k=some (p,k1)):k1.net.nums=k.net.nums/\k1.net.code.length=k.net.code.length+1/\k1.net.nums.length=k.net.nums.length/\k1.nums=k.nums/\k1.vars=k.vars:=by
 by_cases hc:4000≤k.net.code.length
 ·rw[E9 hc] at h;exact absurd h (by simp)
 ·rw[E8 (by omega)] at h
  injection h with h
  injection h with _ h
  subst h
  exact ⟨rfl,by simp[added,aU],rfl,rfl,rfl⟩
theorem rQ.numbered {n p:Int}(h:rQ E ns k) (hx:jF n) (hl:k.net.nums.length<k.net.code.length):rQ E ns (numbered k n p):=
 ⟨h.len,h.pot,h.code,h.keeps,h.ins,h.outs,by simp[Ew.numbered];omega,h.e,h.nf,fun y hy=>by
  rcases aR2.1 hy with h'|h'
  ·exact h.nn y h'
  ·rw[aP5.1 h'];exact hx,h.vf,h.out⟩
theorem R7:Maps.Keyed prog 2:=Maps.int_keyed Tryz.underlying2
theorem dP {n:Int}(h:eK E ns P w kb k) (hE:E<1000000) (hn:jF n) :
 Calls prog 207 #[.pointer (some ⟨kb,0,none⟩),.int .i64 n] w (fJ E ns P kb w k (Em.bS n k) (Value.int .i64)):=by
 obtain ⟨⟨c,hc⟩,hF,Y⟩:=h
 have c8:=hc.cell 8 (u:=.map (some c.mn)) rfl
 obtain ⟨f,Q,hf⟩:=hc.hn
 have I:=Q.look_ok R7 Tryz.underlying133 (o9 w) (Maps.keyOf_int_mk Tryz.underlying2 hn.wf)
 rw[hf n] at I
 cases hkn:k.nums n with
 | some p=>
  rw[hkn] at I
  have ad:(Instr.lookup 133 (.map (some c.mn)) (.int .i64 n) true).run prog w=.ok (.tuple #[.int .i64 p,.bool true]) w:=I
  have HC:Hid (eK E ns P w kb k/\_):=⟨⟨⟨c,hc⟩,hF,Y⟩,hkn⟩
  clear hc hF Y Q hf I hkn
  go_enter Tryz.func207,Tryz.ntmps207
  go_wp2_with fail
  go_ret
  exact fJ.pure HC.out.1 (yN HC.out.2)
 | none=>
  rw[hkn] at I
  have ad:(Instr.lookup 133 (.map (some c.mn)) (.int .i64 n) true).run prog w=.ok (.tuple #[.int .i64 0,.bool false]) w:=I
  have hr:w.ownsRow 0 2 1 (c.v 5) k.net.nums.length (k.net.nums.map (Value.int .i64)):=hc.row 5 (by omega) (by omega)
  obtain ⟨ao,cap,U⟩:=aP hr
  have c5:=hc.cell 5 (u:=c.v 5) rfl
  rw[U] at c5
  have aa:=gU 1 (k.net.nums.length:Int) 0 0 ⟨⟨c,hc⟩,hF,Y⟩ hE
  have HK:Hid (k.nums n=none/\rQ E ns k/\∀b,P b->b<w.heap.size):=⟨hkn,hF,Y⟩
  obtain ⟨i0,hi,ay,ba,aw⟩:=aZ1 Im
  clear hc hF Y Q hf I hkn hr U
  go_enter Tryz.func207,Tryz.ntmps207
  go_upto_region 4 with (go_at_call 205;refine aa.mono ?_;rintro e w1 (⟨rfl,h0,h1⟩|⟨p,J,rfl,h0,h1⟩);(· exact ⟨rfl,.inl ⟨rfl,wK HK.out.1 h0.out,h1⟩⟩))
  clear c8 c5 ad aa
  obtain ⟨⟨⟨c1,s⟩,y,ap⟩,l,r⟩:=h1.out
  obtain ⟨m1,m2,m3,m4,m5⟩:=F4 h0.out
  have hr:w1.ownsRow 0 2 1 (c1.v 5) J.net.nums.length (J.net.nums.map (Value.int .i64)):=s.row 5 (by omega) (by omega)
  obtain ⟨aj,ab,U⟩:=aP hr
  have c5:=s.cell 5 (u:=c1.v 5) rfl
  rw[U] at c5 hr
  obtain ⟨m,Q⟩:=gQx J.net.nums.length
  have bb:m≤4000:=by have:=y.nums;have:=y.code;omega
  rw[<-Q] at c5 hr
  have bc:=aB s.hk
  have ak:Hid (w1.heap[kb]?=some (.cells (c1.cells J.net.places).toArray 135 (0,0))/\∀g,(Value.slice aj m ab).ownBlock=some g->g≠kb):=⟨s.hk,fun g hg e=>by
   have h1:=s.pr 5 g (by omega) (by omega) (by rw[U,<-Q];exact hg)
   rw[e,s.p0.2] at h1;exact absurd h1.2 (by omega)⟩
  have az:Hid (_/\c1.v 5=.slice aj m ab/\_/\_/\_/\_/\J.net.nums.length<J.net.code.length/\J.nums n=none):=⟨s,by rw[Q];exact U,y,l,r,Q,by have:=HK.out.2.1.nums;omega,by rw[m4];exact HK.out.1⟩
  clear s y ap l r U Q m1 m2 m3 m4 m5
  go_upto_region 5 with (at_builtin;refine wpList_append_own_at _ rfl (.tmp 32) (.tmp 34) 22 rfl 0 2 i0 _ 1 8 Tryz.underlying22 hi ay ba aw rfl (by decide) _ _ _ rfl (hr.alloc _) ⟨w1.heap.size,0,none⟩ 1 1 [.int .i64 n] rfl rfl (eN _ _ _) (by intro u hu;simp at hu;subst hu;rfl) (by unfold maxLen;omega) (by omega) (by simp) ?_;intro v5 w5 D O _ ar;obtain ⟨a5,m5,e5⟩:=aP D;subst e5;have af:w5.heap[kb]?=some (.cells (c1.cells J.net.places).toArray 135 (0,0)):=by { rw[O.block kb (by simp;omega) (fun e=>(ak.out.2 kb e.symm) rfl),eB ak.out.1] };have d1:=aF af 5 (u:=c1.v 5) rfl;have f1:=aG af 5)
  obtain ⟨ag,U,y,l,r,Q,au,ai⟩:=az.out
  obtain ⟨g1,g2⟩:=ag.grow (i:=5) (by omega) (by omega) (w0:=w1.alloc (.cells #[.int .i64 n] 2)) (n5:={ J.net with nums:=J.net.nums++[n] }) (aL _ _) (new:=[.int .i64 n]) (by show World.ownsRow _ _ _ _ _ (J.net.nums.length+1) _;rw[<-Q];exact D) (by rw[U];exact O) (by rw[U];exact ar) rfl (fun j hj=>by unfold rB pP;split<;>first|exact absurd rfl hj|exact ⟨rfl,rfl⟩) ⟨by simp[rB],by simp[pP]⟩
  obtain ⟨X,hX⟩:=gQx (w5.setCell ⟨kb,5,none⟩ (.slice a5 (m+1) m5))
  rw[<-hX] at g1 g2 ⊢
  obtain ⟨f,an,ah⟩:=g1.hn
  have x8:=g1.cell 8 (u:=.map (some c1.mn)) rfl
  have av:c1.nn≤J.net.nums.length:=ag.nn
  obtain ⟨w6,ac,ae,al⟩:=an.put R7 Tryz.underlying133 (by show c1.nn<maxLen;unfold maxLen;omega) (Maps.keyOf_int_mk Tryz.underlying2 hn.wf) (.int .i64 p)
  have ax:(Instr.mapUpdate 133 (.map (some c1.mn)) (.int .i64 n) (.int .i64 p)).run prog X=.ok () w6:=ac
  have am:f (.int .i64 n)=none:=by rw[ah n];show (J.nums n).map _=_;rw[ai];rfl
  rw[am] at ae
  obtain ⟨g3,g4⟩:=g1.setN (nums':=fun m=>if m=n then some p else J.nums m) ae (fun x=>by
   by_cases hxn:x=n
   ·rw[hxn,Gm.pQ _ (by trivial),if_pos rfl];rfl
   ·rw[Gm.kT _ _ (by intro e;injection e with _ e;exact hxn e),if_neg hxn];exact ah x) al (by simp;exact aO6 av (aO4 _))
  have hU:∀b,Up (Up P w w1) w1 X b->Up P w w6 b:=fun b hb=>Up.size g4.size b (Up.up l.size g2.size b hb)
  have Z:bM P w w6:=(l.up g2).trans g4 fun b hb hq=>by
   rcases hq with (hq|hq)|hq
   ·exact hq
   ·omega
   ·have:=l.size;omega
  have HF:Hid (fJ E ns P kb w k (Em.bS n k) (Value.int .i64) (.returned (.int .i64 p)) w6):=.inr ⟨p,numbered J n p,rfl,wJ HK.out.1 h0.out,⟨⟨_,g3.mono hU⟩,y.numbered hn au,iI HK.out.2.2 Z.size⟩,Z,r⟩
  clear hX g1 g2 an ah ac ae al am g3 g4 hU Z ag U y l r Q au ai av D O ar af d1 f1 c5 hr h0 h1
  go_wp2_with fail
  go_ret
  exact HF.out
end
section
variable {P:Nat->Prop}{w:World}{kb E:Nat}{ns:List bE}{k:Kd}
theorem I2 {a b:Int}(h:a=-1\/b=-1):Em.tX a b k=some (-1,k):=by unfold Em.tX;rw[if_pos h];rfl
theorem Uv {a b:Int}(ha:a≠-1) (hb:b≠-1):Em.tX a b k=Em.made 15 a b 0 k:=by unfold Em.tX;rw[if_neg (by rintro (h|h);exact ha h;exact hb h)]
theorem Wu {a b:Int}(h:a=-1):Em.uZ a b k=some (b,k):=by unfold Em.uZ;rw[if_pos h];rfl
theorem Qq {a b:Int}(ha:a≠-1) (h:b=-1):Em.uZ a b k=some (a,k):=by unfold Em.uZ;rw[if_neg ha,if_pos h];rfl
theorem Wt {a b:Int}(ha:a≠-1) (hb:b≠-1):Em.uZ a b k=Em.made 16 a b 0 k:=by unfold Em.uZ;rw[if_neg ha,if_neg hb]
theorem Us {a b:Int}(h:b=-1):Em.dU a b k=some (a,k):=by unfold Em.dU;rw[if_pos h];rfl
theorem Cq {a b:Int}(hb:b≠-1) (h:a=-1\/a=b):Em.dU a b k=some (-1,k):=by unfold Em.dU;rw[if_neg hb,if_pos h];rfl
theorem Yq {a b:Int}(hb:b≠-1) (ha:a≠-1) (hab:a≠b):Em.dU a b k=Em.made 13 b a 0 k:=by unfold Em.dU;rw[if_neg hb,if_neg (by rintro (h|h);exact ha h;exact hab h)]
theorem tW (a b:Int) (h:eK E ns P w kb k) (s:E<1000000) :
 Calls prog 232 #[.pointer (some ⟨kb,0,none⟩),.int .i64 a,.int .i64 b] w (fJ E ns P kb w k (Em.tX a b k) (Value.int .i64)):=by
 by_cases ha:a=-1
 ·rw[I2 (.inl ha)]
  have n:Hid (fJ E ns P kb w k (some (-1,k)) (Value.int .i64) (.returned (.int .i64 (-1))) w):=fJ.pure h rfl
  have t:(a == -1)=true:=by simpa using ha
  clear ha h
  go_enter Tryz.func232,Tryz.ntmps232
  go_wp2_with fail
  go_ret
  exact n.out
 ·by_cases hb:b=-1
  ·rw[I2 (.inr hb)]
   have n:Hid (fJ E ns P kb w k (some (-1,k)) (Value.int .i64) (.returned (.int .i64 (-1))) w):=fJ.pure h rfl
   have t:(a == -1)=false:=by simpa using ha
   have u:(b == -1)=true:=by simpa using hb
   clear ha hb h
   go_enter Tryz.func232,Tryz.ntmps232
   go_wp2_with fail
   go_ret
   exact n.out
  ·rw[Uv ha hb]
   have c:=gU 15 a b 0 h s
   have t:(a == -1)=false:=by simpa using ha
   have u:(b == -1)=false:=by simpa using hb
   clear ha hb h
   go_enter Tryz.func232,Tryz.ntmps232
   go_wp2_with (go_at_call 205;refine c.mono ?_;rintro e w1 (⟨rfl,l,j⟩|⟨p,r,rfl,l,j⟩);(· exact ⟨rfl,.inl ⟨rfl,l,j⟩⟩))
   go_ret
   exact .inr ⟨p,r,rfl,l,j⟩
theorem pS (a b:Int) (h:eK E ns P w kb k) (s:E<1000000) :
 Calls prog 211 #[.pointer (some ⟨kb,0,none⟩),.int .i64 a,.int .i64 b] w (fJ E ns P kb w k (Em.uZ a b k) (Value.int .i64)):=by
 by_cases ha:a=-1
 ·rw[Wu ha]
  have n:Hid (fJ E ns P kb w k (some (b,k)) (Value.int .i64) (.returned (.int .i64 b)) w):=fJ.pure h rfl
  have t:(a == -1)=true:=by simpa using ha
  clear ha h
  go_enter Tryz.func211,Tryz.ntmps211
  go_wp2_with fail
  go_ret
  exact n.out
 ·by_cases hb:b=-1
  ·rw[Qq ha hb]
   have n:Hid (fJ E ns P kb w k (some (a,k)) (Value.int .i64) (.returned (.int .i64 a)) w):=fJ.pure h rfl
   have t:(a == -1)=false:=by simpa using ha
   have u:(b == -1)=true:=by simpa using hb
   clear ha hb h
   go_enter Tryz.func211,Tryz.ntmps211
   go_wp2_with fail
   go_ret
   exact n.out
  ·rw[Wt ha hb]
   have c:=gU 16 a b 0 h s
   have t:(a == -1)=false:=by simpa using ha
   have u:(b == -1)=false:=by simpa using hb
   clear ha hb h
   go_enter Tryz.func211,Tryz.ntmps211
   go_wp2_with (go_at_call 205;refine c.mono ?_;rintro e w1 (⟨rfl,l,j⟩|⟨p,r,rfl,l,j⟩);(· exact ⟨rfl,.inl ⟨rfl,l,j⟩⟩))
   go_ret
   exact .inr ⟨p,r,rfl,l,j⟩
theorem oL (a b:Int) (h:eK E ns P w kb k) (u:E<1000000) :
 Calls prog 204 #[.pointer (some ⟨kb,0,none⟩),.int .i64 a,.int .i64 b] w (fJ E ns P kb w k (Em.dU a b k) (Value.int .i64)):=by
 by_cases hb:b=-1
 ·rw[Us hb]
  have j:Hid (fJ E ns P kb w k (some (a,k)) (Value.int .i64) (.returned (.int .i64 a)) w):=fJ.pure h rfl
  have t:(b == -1)=true:=by simpa using hb
  clear hb h
  go_enter Tryz.func204,Tryz.ntmps204
  go_wp2_with fail
  go_ret
  exact j.out
 ·by_cases ha:a=-1
  ·rw[Cq hb (.inl ha)]
   have j:Hid (fJ E ns P kb w k (some (-1,k)) (Value.int .i64) (.returned (.int .i64 (-1))) w):=fJ.pure h rfl
   have t:(b == -1)=false:=by simpa using hb
   have r:(a == -1)=true:=by simpa using ha
   clear ha hb h
   go_enter Tryz.func204,Tryz.ntmps204
   go_wp2_with fail
   go_ret
   exact j.out
  ·by_cases hab:a=b
   ·rw[Cq hb (.inr hab)]
    have j:Hid (fJ E ns P kb w k (some (-1,k)) (Value.int .i64) (.returned (.int .i64 (-1))) w):=fJ.pure h rfl
    have t:(b == -1)=false:=by simpa using hb
    have r:(a == -1)=false:=by simpa using ha
    have y:(a==b)=true:=by simpa using hab
    clear ha hb h hab
    go_enter Tryz.func204,Tryz.ntmps204
    go_wp2_with fail
    go_ret
    exact j.out
   ·rw[Yq hb ha hab]
    have c:=gU 13 b a 0 h u
    have t:(b == -1)=false:=by simpa using hb
    have r:(a == -1)=false:=by simpa using ha
    have y:(a==b)=false:=by simpa using hab
    clear ha hb h hab
    go_enter Tryz.func204,Tryz.ntmps204
    go_wp2_with (go_at_call 205;refine c.mono ?_;rintro e w1 (⟨rfl,n,l⟩|⟨p,s,rfl,n,l⟩);(· exact ⟨rfl,.inl ⟨rfl,n,l⟩⟩))
    go_ret
    exact .inr ⟨p,s,rfl,n,l⟩
theorem nU (c so from_:Int) (h:eK E ns P w kb k) :
 Calls prog 214 #[.pointer (some ⟨kb,0,none⟩),.int .i64 c,.int .i64 so,.int .i64 from_] w (fJ E ns P kb w k (Em.put c so from_ k) (fun _=>.tuple #[])):=by
 by_cases hcl:4000≤k.net.code.length
 ·have j:=X8 ⟨17,c,so,from_,c⟩ h hcl
  clear h
  go_enter Tryz.func214,Tryz.ntmps214
  go_wp2_with (go_at_call 119;refine j.mono ?_;rintro e w2 ⟨rfl,l⟩)
  exact ⟨rfl,.inl ⟨rfl,if_pos hcl,l⟩⟩
 ·have j:=Gz (E:=E) ⟨17,c,so,from_,c⟩ h (by omega) h.2.1.e (by omega)
  clear h
  go_enter Tryz.func214,Tryz.ntmps214
  go_wp2_with (go_at_call 119;refine j.mono ?_;rintro e w2 ⟨rfl,l⟩)
  go_end0
  exact .inr ⟨(),_,rfl,if_neg hcl,l.out.1,l.out.2,Int.le_refl _⟩
theorem aA2 (so p:Int) (h:eK E ns P w kb k) (y:E<1000000) :
 Calls prog 209 #[.pointer (some ⟨kb,0,none⟩),.int .i64 so,.int .i64 p] w (fJ E ns P kb w k (Em.given so p k) (Value.int .i64)):=by
 have c:=dP (n:=0) h y jF.zero
 have HP:Hid _:=h.2.2
 clear h
 go_enter Tryz.func209,Tryz.ntmps209
 go_wp2_with (first
  | (go_at_call 207;refine c.mono ?_;rintro e w1 (⟨rfl,r,l⟩|⟨z,I,rfl,r,l⟩);(· exact ⟨rfl,.inl ⟨rfl,aH r.out,l⟩⟩);have j:=gU 17 so p z l.out.1 y;clear c)
  | (go_at_call 205;refine j.mono ?_;rintro e w2 (⟨rfl,s,u⟩|⟨q,D,rfl,s,u⟩);(· exact ⟨rfl,fJ.up HP.out l.out.2.1 l.out.2.2 (bind_some r.out) (.inl ⟨rfl,s,u⟩)⟩)))
 go_ret
 exact fJ.up HP.out l.out.2.1 l.out.2.2 (bind_some r.out) (.inr ⟨q,D,rfl,s,u⟩)
theorem nX (i:Nat) (c:i≤1000000):Calls prog 158 #[.int .i64 (i:Int)] w fun e w'=>e=.returned (.int .i64 ((i:Int)+1))/\w'=w:=by
 go_enter Tryz.func158,Tryz.ntmps158
 go_wp2_with fail
 go_ret
 exact ⟨rfl,rfl⟩
theorem Ia {i:Nat}(hi:i≤1000000):jF ((i:Int)+1):=by unfold jF;omega
theorem aE4 (p:Int) (i:Nat) (J:i≤1000000) (h:eK E ns P w kb k) (I:E<1000000) :
 Calls prog 163 #[.pointer (some ⟨kb,0,none⟩),.int .i64 p,.int .i64 (i:Int)] w (fJ E ns P kb w k (Em.is p i k) (Value.int .i64)):=by
 have c:=dP (n:=(i:Int)+1) h I (Ia J)
 have r:=nX (w:=w) i J
 have HP:Hid _:=h.2.2
 clear h
 go_enter Tryz.func163,Tryz.ntmps163
 go_wp2_with (first
  | (go_at_call 158;refine r.mono ?_;rintro e w0 ⟨rfl,D⟩;obtain rfl:=D.symm;clear r)
  | (go_at_call 207;refine c.mono ?_;rintro e w1 (⟨rfl,s,l⟩|⟨z,Q,rfl,s,l⟩);(· exact ⟨rfl,.inl ⟨rfl,aH s.out,l⟩⟩);have j:=gU 11 p z 0 l.out.1 I;clear c)
  | (go_at_call 205;refine j.mono ?_;rintro e w2 (⟨rfl,u,y⟩|⟨q,O,rfl,u,y⟩);(· exact ⟨rfl,fJ.up HP.out l.out.2.1 l.out.2.2 (bind_some s.out) (.inl ⟨rfl,u,y⟩)⟩)))
 go_ret
 exact fJ.up HP.out l.out.2.1 l.out.2.2 (bind_some s.out) (.inr ⟨q,O,rfl,u,y⟩)
end
end Ew
end
section
open Go.RowKit Px
def sG:E->Prop
 | .nil=>True
 | .node _ _ a l r=>a.name.length≤maxLen/\jF a.num/\sG l/\sG r
def qE (ns:List bE) (l:List iY):Prop:=∀a∈l,a.name∈ns/\a.name.length≤maxLen/\sG a.e
structure oJ {σ:Type}(ns:List bE) (s:cF σ):Prop where
 en:qE ns s.enter
 du:qE ns s.during
 le:qE ns s.leave
 re:sG s.rests
 wy:∀y∈s.ways,sG y.cond/\qE ns y.sets
 wl:s.ways.length≤maxLen
 il:s.regions.length≤maxLen
def rO (ns:List bE):(k:Nat)->List (St k)->Prop
 | 0=>fun _=>True
 | k+1=>fun L=>∀s∈(show List (cF (St k)) from L),oJ ns s/\∀r∈s.regions,rO ns k r
def vW:(k:Nat)->List (St k)->Prop
 | 0=>fun _=>False
 | k+1=>fun L=>jC (ρ:=St k) L=1/\Zd (bD (ρ:=St k) L)/\(∀s∈(show List (cF (St k)) from L),∀y∈s.ways,∃t,jT (bD (ρ:=St k) L) y.to=some t)/\List.length L≤1000000/\∀s∈(show List (cF (St k)) from L),s.name.length≤maxLen/\s.ways.length≤1000000/\s.regions.length≤1000000/\(∀y∈s.ways,y.to.length≤maxLen)/\∀r∈s.regions,vW k r
structure Vi (c:fZ):Prop where
 vl:c.vars.length≤1000000
 vn:∀v∈c.vars,v.name.length≤maxLen
 rl:c.regions.length≤maxLen
 st:∀L∈c.regions,rO (cG c.vars) 6 L
end
section
open Go.RowKit Px
namespace Ew
open Px.Em (Kd Vr)
open Nx (Nt Sp)
section
variable {P A:Nat->Prop}{w:World}{kb E:Nat}{ns:List bE}{k:Kd}
theorem Vq (w:World):(zeroValue 183).run prog w=.ok (Jo Zo) w:=by kernel_rfl
theorem CM.lookV {c:Cv}(h:CM P w kb k c) {s:bE}(n:s.length≤maxLen):(Instr.lookup 132 (.map (some c.mv)) (sv s) false).run prog w=.ok (Jo (k.vars s)) w:=by
 obtain ⟨f,j,l⟩:=h.hv
 rw[j.look sT Tryz.underlying132 (Vq w) (Pq n),l s]
def wased (k:Kd) (s:bE) (v:Vr) (p:Int):Kd:={ k with vars:=fun t=>if t=s then ⟨v.now,p,v.first⟩ else k.vars t }
theorem Hh {s:bE}(h:(k.vars s).was≠-1):Em.sN s k=some ((k.vars s).was,k):=by
 show (if (k.vars s).was=-1 then _ else (Pure.pure (k.vars s).was:Em.M Int)) k=_
 rw[if_neg h];rfl
theorem Hg {s:bE}(h:(k.vars s).was=-1):Em.sN s k=some (k.net.places,wased (bF (aU k (k.vars s).first) k.net.places) s (k.vars s) k.net.places):=by
 show (if (k.vars s).was=-1 then _ else (Pure.pure (k.vars s).was:Em.M Int)) k=_
 rw[if_pos h];rfl
theorem Bm {α:Type}{p q:α->Bool}(c:∀a,q a=true->p a=true) {s:α}(j:p s=true) (n:q s=false):∀{l:List α},s∈l->(l.filter q).length+1≤(l.filter p).length:=by
 intro l
 induction l with
 | nil=>intro h;simp at h
 | cons a r ih=>
  intro h
  have u:(r.filter q).length≤(r.filter p).length:=by
   clear ih h
   induction r with
   | nil=>simp
   | cons b r ih=>
    rw[List.filter_cons,List.filter_cons]
    by_cases hb:q b=true
    ·rw[if_pos hb,if_pos (c b hb)];simp;omega
    ·rw[if_neg hb];split<;>first|omega|(simp;omega)
  rw[List.filter_cons,List.filter_cons]
  rcases aW5.1 h with rfl|h
  ·rw[n,if_neg (by simp),if_pos j];simp;omega
  ·have:=ih h
   by_cases hb:q a=true
   ·rw[if_pos hb,if_pos (c a hb)];simp;omega
   ·rw[if_neg hb];split<;>first|omega|(simp;omega)
theorem rQ.wased {s:bE}{p:Int}{v:Vr}(h:rQ (E+1) ns k) (r:E≤1000000) (j:(k.vars s).was=-1) (l:p≠-1) (u:jF v.first):rQ E ns (Ew.wased k s v p):=by
 have c:s∈ns:=by
  by_cases c:s∈ns
  ·exact c
  ·exact absurd j (h.out s c)
 have D:yP ns (Ew.wased k s v p)+1≤yP ns k:=Bm (s:=s) (fun a n=>by
  simp only[Ew.wased] at n
  by_cases has:a=s
  ·subst has;simpa using j
  ·simpa [has] using n) (by simpa using j) (by simp[Ew.wased];exact l) c
 have:=h.pot
 refine ⟨h.len,?_,h.code,h.keeps,h.ins,h.outs,h.nums,r,h.nf,h.nn,fun t=>?_,fun t y=>?_⟩
 ·show k.net.first.length+_≤k.net.code.length+E;omega
 ·show jF (if t=s then (⟨v.now,p,v.first⟩:Vr) else k.vars t).first
  split
  ·exact u
  ·exact h.vf t
 ·show (if t=s then (⟨v.now,p,v.first⟩:Vr) else k.vars t).was≠-1
  split
  ·exact l
  ·exact h.out t y
theorem Vu {s:bE}(hs:s.length≤maxLen) (h:eK E ns P w kb k) (hE:E<1000000) :
 Calls prog 230 #[.pointer (some ⟨kb,0,none⟩),sv s] w (fJ E ns P kb w k (Em.sN s k) (Value.int .i64)):=by
 obtain ⟨⟨c,hc⟩,hF,I⟩:=h
 have c7:=hc.cell 7 (u:=.map (some c.mv)) rfl
 have ai:=hc.lookV hs
 have j:=hF.vf s
 obtain ⟨W,hW⟩:=gQx (w.alloc (.cells #[.int .i64 (k.vars s).now,.int .i64 (k.vars s).was,.int .i64 (k.vars s).first] 183))
 have J:Below w.heap.size w W:=by rw[hW];exact aL _ _
 have n:W.heap[w.heap.size]?=some (.cells #[.int .i64 (k.vars s).now,.int .i64 (k.vars s).was,.int .i64 (k.vars s).first] 183 (0,0)):=by rw[hW];exact aX w _
 obtain ⟨q,hq⟩:=gQx w.heap.size
 rw[<-hq] at n
 have aa:eK E ns P W kb k:=eK.below ⟨⟨c,hc⟩,hF,I⟩ J
 have HH:Hid (_/\_/\_/\_/\_/\_/\¬P q):=⟨aa,J,I,hq.symm,n,hs,fun hp=>by have:=I q hp;omega⟩
 obtain ⟨vn,O,r,hv⟩:∃vn O r,k.vars s=⟨vn,O,r⟩:=⟨_,_,_,rfl⟩
 rw[hv] at hW n HH j
 have U:(Instr.lookup 132 (.map (some c.mv)) (sv s) false).run prog w=.ok (.agg #[.int .i64 vn,.int .i64 O,.int .i64 r]) w:=by rw[ai,hv];rfl
 have x0:=aF n 0 (u:=.int .i64 vn) rfl
 have x1:=aF n 1 (u:=.int .i64 O) rfl
 have x2:=aF n 2 (u:=.int .i64 r) rfl
 have HV:Hid _:=hv
 obtain ⟨S,hS⟩:=gQx (sv s)
 have HS:Hid _:=hS
 rw[<-hS] at U ⊢
 by_cases hw:O=-1
 ·have y:=yX (x:=r) aa hE j
  obtain ⟨p,hp⟩:=gQx k.net.places
  have HP:Hid (_/\p≠-1/\_):=⟨hp,by have:=hF.len;omega,hF.len⟩
  rw[<-hp] at y
  have t:(O == -1)=true:=by simpa using hw
  have HW:Hid _:=hw
  clear hc hF I ai aa J n hs hv hS hw hp
  go_enter Tryz.func230,Tryz.ntmps230
  go_upto_region 2 with fail
  rw[<-hW,<-hq]
  clear hW hq c7 U
  go_upto_region 4 with (go_at_call 115;refine y.mono ?_;rintro e w1 ⟨rfl,h1⟩;have ab:=h1.out.2.heap HH.out.2.2.2.2.1 HH.out.2.2.2.2.2.2;have d1:=aF ab 1 (u:=.int .i64 O) rfl;have f1:=aG ab 1)
  obtain ⟨X,hX⟩:=gQx (w1.setCell ⟨q,1,none⟩ (.int .i64 p))
  have D:X.heap[q]?=some (.cells #[.int .i64 vn,.int .i64 p,.int .i64 r] 183 (0,0)):=by rw[hX];exact cH (l:=[.int .i64 vn,.int .i64 O,.int .i64 r]) ab 1 _
  have ak:¬Up P W w1 q:=fun hu=>hu.elim HH.out.2.2.2.2.2.2 fun h=>by have:=aB HH.out.2.2.2.2.1;omega
  have Z:bB (Up P W w1) (Up P W w1) w1 X:=fun b hb hl=>⟨hb,by rw[hX];exact Below.heap_setCell _ _ _ _ (fun e=>ak (by have e:b=q:=e;rw[<-e];exact hb))⟩
  obtain ⟨⟨⟨c1,aj⟩,ag,an⟩,ad⟩:=h1.out
  have Y:=aj.carry Z
  have ao:bM P w X:=by rw[hX];exact ((bM.of_below HH.out.2.1).trans ad fun _ _ h=>h).setCell (.inr (by rw[HH.out.2.2.2.1];exact aO4 _)) _
  have ap:X.heap.size=w1.heap.size:=by rw[hX];simp[World.setCell]
  obtain ⟨f,hm,hf⟩:=Y.hv
  have am:Gm.Mp prog 9 X.drew c1.mv c1.nv f:=hm.keep rfl
  have al:c1.nv≤(bF (aU k r) p).net.first.length:=Y.nv
  obtain ⟨w6,ae,af,ah⟩:=am.put sT Tryz.underlying132 (by have:=ag.few;unfold maxLen;omega) (Pq HH.out.2.2.2.2.2.1) (Jo ⟨vn,p,r⟩)
  have ac:(f (.string s)).isSome=true:=by
   have:=hf s
   show _
   cases ac:f (.string s) with
   | some v=>rfl
   | none=>
    rw[ac] at this
    have h2:Jo Zo=Jo (k.vars s):=this
    rw[HV.out,HW.out] at h2
    simp[Jo,Zo] at h2
  rw[ac,if_pos rfl] at af
  have aw:(Instr.mapUpdate 132 (.map (some c1.mv)) S (.agg #[.int .i64 vn,.int .i64 p,.int .i64 r])).run prog X.drew=.ok () w6:=by rw[HS.out];exact ae
  have au:CM (Up P W w1) X.drew kb (bF (aU k r) p) c1:=Y.carry fun b hb _=>⟨hb,rfl⟩
  obtain ⟨g3,g4⟩:=au.setV (vars':=(wased (bF (aU k r) p) s (k.vars s) p).vars) af (fun t=>by
   show ((Gm.put f _ _) _).getD _=Jo (if t=s then ⟨(k.vars s).now,p,(k.vars s).first⟩ else k.vars t)
   by_cases hts:t=s
   ·rw[hts,Gm.pQ _ (by trivial),if_pos rfl,HV.out];rfl
   ·rw[Gm.kT _ _ (by intro e;injection e with e;exact hts e),if_neg hts];exact hf t) ah al
  have z7:=Y.cell 7 (u:=.map (some c1.mv)) rfl
  have y0:=aF D 0 (u:=.int .i64 vn) rfl
  have y1:=aF D 1 (u:=.int .i64 p) rfl
  have y2:=aF D 2 (u:=.int .i64 r) rfl
  have ax:q≠c1.mv:=fun e=>ak (e▸aj.pv.1)
  have ar:w6.heap[q]?=some (.cells #[.int .i64 vn,.int .i64 p,.int .i64 r] 183 (0,0)):=by rw[ah.block q (aB D) (fun e=>ax (by injection e))];exact D
  have z1:=aF ar 1 (u:=.int .i64 p) rfl
  have av:=HH.out.2.1.size
  have Q:bM P w w6:=(ao.drew).trans g4 fun b hb hq=>hq.elim id fun h=>absurd h.1 (by omega)
  have HF:Hid (fJ E ns P kb w k (Em.sN s k) (Value.int .i64) (.returned (.int .i64 p)) w6):=by
   refine .inr ⟨p,wased (bF (aU k r) p) s (k.vars s) p,rfl,?_,⟨⟨_,g3.mono fun b hb=>?_⟩,?_,iI HH.out.2.2.1 Q.size⟩,Q,?_⟩
   ·have:=Hg (k:=k) (s:=s) (by rw[HV.out];exact HW.out)
    rw[<-HP.out.1,HV.out] at this
    rw[HV.out]
    exact this
   ·rcases hb with hb|hb
    ·exact .inl hb
    ·exact .inr ⟨by omega,by have h1:w1.heap.size≤w6.heap.size:=by { rw[<-ap];exact g4.size };omega⟩
   ·exact ag.wased (by omega) (by show (k.vars s).was=-1;rw[HV.out];exact HW.out) HP.out.2.1 (by rw[HV.out];exact j)
   ·show k.net.places≤k.net.places+1;omega
  rw[<-hX]
  clear hX D ak Z aj ag an ad Y ao ap hm hf am al ae af ah ac au g3 g4 ar av Q h1 ab d1 f1 y
  go_region
  all_goals
   go_wp2_with fail
   go_ret
   exact HF.out
 ·have t:(O == -1)=false:=by simpa using hw
  have HF:Hid (fJ E ns P kb w k (Em.sN s k) (Value.int .i64) (.returned (.int .i64 O)) W):=fJ.below I J (by
   have h1:=fJ.pure (o:=Em.sN s k) (val:=Value.int .i64) (a:=O) aa (by rw[Hh (by rw[hv];exact hw),hv])
   exact h1)
  clear hc hF I ai aa J n hs hv hS hw
  go_enter Tryz.func230,Tryz.ntmps230
  go_upto_region 2 with fail
  rw[<-hW,<-hq]
  clear hW hq c7 U
  go_wp2_with fail
  go_ret
  exact HF.out
end
end Ew
end
end Go.Proofs.YthieaobjdpfcoaaGreatDoor
