import Derived.Test.YthieaobjdpfcoaaGreatDoorVU0
import Derived.BigQuiet
import Derived.Test.YthieaobjdpfcoaaGreatDoorVCo2
set_option maxRecDepth 100000
set_option maxHeartbeats 4000000
namespace Go.Proofs.YthieaobjdpfcoaaGreatDoor
section
open Go.RowKit Px
namespace Ew
open Px.Em (Kd Vr)
open Nx (Nt Sp)
section
variable {P A:Nat->Prop}{w:World}{kb E:Nat}{ns:List bE}{k:Kd}
theorem Vq (w:World):(zeroValue 183).run Tryz.prog w=.ok (Jo Zo) w:=by kernel_rfl
theorem CM.lookV {c:Cv}(h:CM P w kb k c) {s:bE}(u:s.length≤maxLen):(Instr.lookup 132 (.map (some c.mv)) (sv s) false).run Tryz.prog w=.ok (Jo (k.vars s)) w:=by
 obtain ⟨f,j,n⟩:=h.hv
 rw[j.look sT Tryz.underlying132 (Vq w) (Pq u),n s]
def wased (k:Kd) (s:bE) (v:Vr) (p:Int):Kd:={ k with vars:=fun t=>if t=s then ⟨v.now,p,v.first⟩ else k.vars t }
theorem Hh {s:bE}(h:(k.vars s).was≠-1):Em.sN s k=some ((k.vars s).was,k):=by
 show (if (k.vars s).was=-1 then _ else (Pure.pure (k.vars s).was:Em.M Int)) k=_
 rw[if_neg h];rfl
theorem Hg {s:bE}(h:(k.vars s).was=-1):Em.sN s k=some (k.net.places,wased (bF (aU k (k.vars s).first) k.net.places) s (k.vars s) k.net.places):=by
 show (if (k.vars s).was=-1 then _ else (Pure.pure (k.vars s).was:Em.M Int)) k=_
 rw[if_pos h];rfl
theorem Bm {α:Type}{p q:α->Bool}(c:∀a,q a=true->p a=true) {s:α}(j:p s=true) (n:q s=false):∀{l:List α},s∈l->(l.filter q).length+1≤(l.filter p).length:=by
 intro l
 induction l with
 | nil=>intro h;simp at h
 | cons a r ih=>
  intro h
  have u:(r.filter q).length≤(r.filter p).length:=by
   clear ih h
   induction r with
   | nil=>simp
   | cons b r ih=>
    rw[List.filter_cons,List.filter_cons]
    by_cases hb:q b=true
    ·rw[if_pos hb,if_pos (c b hb)];simp;omega
    ·rw[if_neg hb];split<;>first|omega|(simp;omega)
  rw[List.filter_cons,List.filter_cons]
  rcases aV8.1 h with rfl|h
  ·rw[n,if_neg (by simp),if_pos j];simp;omega
  ·have:=ih h
   by_cases hb:q a=true
   ·rw[if_pos hb,if_pos (c a hb)];simp;omega
   ·rw[if_neg hb];split<;>first|omega|(simp;omega)
theorem rQ.wased {s:bE}{p:Int}{v:Vr}(h:rQ (E+1) ns k) (y:E≤1000000) (j:(k.vars s).was=-1) (n:p≠-1) (D:jF v.first):rQ E ns (Ew.wased k s v p):=by
 have c:s∈ns:=by
  by_cases c:s∈ns
  ·exact c
  ·exact absurd j (h.out s c)
 have J:yP ns (Ew.wased k s v p)+1≤yP ns k:=Bm (s:=s) (fun a u=>by
  simp only[Ew.wased] at u
  by_cases has:a=s
  ·subst has;simpa using j
  ·simpa [has] using u) (by simpa using j) (by simp[Ew.wased];exact n) c
 have:=h.pot
 refine ⟨h.len,?_,h.code,h.keeps,h.ins,h.outs,h.nums,y,h.nf,h.nn,fun t=>?_,fun t I=>?_⟩
 ·show k.net.first.length+_≤k.net.code.length+E;omega
 ·show jF (if t=s then (⟨v.now,p,v.first⟩:Vr) else k.vars t).first
  split
  ·exact D
  ·exact h.vf t
 ·show (if t=s then (⟨v.now,p,v.first⟩:Vr) else k.vars t).was≠-1
  split
  ·exact n
  ·exact h.out t I
theorem Vu {s:bE}(hs:s.length≤maxLen) (h:eK E ns P w kb k) (hE:E<1000000) :
    Calls Tryz.prog 230 #[.pointer (some ⟨kb,0,none⟩),sv s] w (fJ E ns P kb w k (Em.sN s k) (Value.int .i64)):=by
 obtain ⟨⟨c,hc⟩,hF,J⟩:=h
 have c7:=hc.cell 7 (u:=.map (some c.mv)) rfl
 have aj:=hc.lookV hs
 have j:=hF.vf s
 obtain ⟨W,hW⟩:∃W,W=w.alloc (.cells #[.int .i64 (k.vars s).now,.int .i64 (k.vars s).was,.int .i64 (k.vars s).first] 183):=⟨_,rfl⟩
 have O:Below w.heap.size w W:=by rw[hW];exact aL _ _
 have n:W.heap[w.heap.size]?=some (.cells #[.int .i64 (k.vars s).now,.int .i64 (k.vars s).was,.int .i64 (k.vars s).first] 183 (0,0)):=by rw[hW];exact aX w _
 obtain ⟨q,hq⟩:∃q,q=w.heap.size:=⟨_,rfl⟩
 rw[<-hq] at n
 have ab:eK E ns P W kb k:=eK.below ⟨⟨c,hc⟩,hF,J⟩ O
 have HH:Hid (_/\_/\_/\_/\_/\_/\¬P q):=⟨ab,O,J,hq.symm,n,hs,fun hp=>by have:=J q hp;omega⟩
 obtain ⟨vn,Q,y,hv⟩:∃vn Q y,k.vars s=⟨vn,Q,y⟩:=⟨_,_,_,rfl⟩
 rw[hv] at hW n HH j
 have Y:(Instr.lookup 132 (.map (some c.mv)) (sv s) false).run Tryz.prog w=.ok (.agg #[.int .i64 vn,.int .i64 Q,.int .i64 y]) w:=by rw[aj,hv];rfl
 have x0:=aF n 0 (u:=.int .i64 vn) rfl
 have x1:=aF n 1 (u:=.int .i64 Q) rfl
 have x2:=aF n 2 (u:=.int .i64 y) rfl
 have HV:Hid _:=hv
 obtain ⟨S,hS⟩:∃S,S=sv s:=⟨_,rfl⟩
 have HS:Hid _:=hS
 rw[<-hS] at Y ⊢
 by_cases hw:Q=-1
 ·have D:=yX (x:=y) ab hE j
  obtain ⟨p,hp⟩:∃p,p=k.net.places:=⟨_,rfl⟩
  have HP:Hid (_/\p≠-1/\_):=⟨hp,by have:=hF.len;omega,hF.len⟩
  rw[<-hp] at D
  have t:(Q == -1)=true:=by simpa using hw
  have HW:Hid _:=hw
  clear hc hF J aj ab O n hs hv hS hw hp
  go_enter Tryz.func230,Tryz.ntmps230
  go_upto_region 2 with fail
  rw[<-hW,<-hq]
  clear hW hq c7 Y
  go_upto_region 4 with (go_at_call 115;refine D.mono ?_;rintro e w1 ⟨rfl,h1⟩;have ac:=h1.out.2.heap HH.out.2.2.2.2.1 HH.out.2.2.2.2.2.2;have d1:=aF ac 1 (u:=.int .i64 Q) rfl;have f1:=aG ac 1)
  obtain ⟨X,hX⟩:∃X,X=w1.setCell ⟨q,1,none⟩ (.int .i64 p):=⟨_,rfl⟩
  have I:X.heap[q]?=some (.cells #[.int .i64 vn,.int .i64 p,.int .i64 y] 183 (0,0)):=by rw[hX];exact cH (l:=[.int .i64 vn,.int .i64 Q,.int .i64 y]) ac 1 _
  have al:¬Up P W w1 q:=fun hu=>hu.elim HH.out.2.2.2.2.2.2 fun h=>by have:=aB HH.out.2.2.2.2.1;omega
  have aa:bB (Up P W w1) (Up P W w1) w1 X:=fun b hb hl=>⟨hb,by rw[hX];exact Below.heap_setCell _ _ _ _ (fun e=>al (by have e:b=q:=e;rw[<-e];exact hb))⟩
  obtain ⟨⟨⟨c1,ak⟩,ah,ao⟩,ae⟩:=h1.out
  have Z:=ak.carry aa
  have ap:bM P w X:=by rw[hX];exact ((bM.of_below HH.out.2.1).trans ae fun _ _ h=>h).setCell (.inr (by rw[HH.out.2.2.2.1];exact aN4 _)) _
  have ar:X.heap.size=w1.heap.size:=by rw[hX];simp[World.setCell]
  obtain ⟨f,hm,hf⟩:=Z.hv
  have an:Gm.Mp Tryz.prog 9 X.drew c1.mv c1.nv f:=hm.keep rfl
  have am:c1.nv≤(bF (aU k y) p).net.first.length:=Z.nv
  obtain ⟨w6,af,ag,ai⟩:=an.put sT Tryz.underlying132 (by have:=ah.few;unfold maxLen;omega) (Pq HH.out.2.2.2.2.2.1) (Jo ⟨vn,p,y⟩)
  have ad:(f (.string s)).isSome=true:=by
   have:=hf s
   show _
   cases ad:f (.string s) with
   | some v=>rfl
   | none=>
    rw[ad] at this
    have h2:Jo Zo=Jo (k.vars s):=this
    rw[HV.out,HW.out] at h2
    simp[Jo,Zo] at h2
  rw[ad,if_pos rfl] at ag
  have ax:(Instr.mapUpdate 132 (.map (some c1.mv)) S (.agg #[.int .i64 vn,.int .i64 p,.int .i64 y])).run Tryz.prog X.drew=.ok () w6:=by rw[HS.out];exact af
  have av:CM (Up P W w1) X.drew kb (bF (aU k y) p) c1:=Z.carry fun b hb _=>⟨hb,rfl⟩
  obtain ⟨g3,g4⟩:=av.setV (vars':=(wased (bF (aU k y) p) s (k.vars s) p).vars) ag (fun t=>by
   show ((Gm.put f _ _) _).getD _=Jo (if t=s then ⟨(k.vars s).now,p,(k.vars s).first⟩ else k.vars t)
   by_cases hts:t=s
   ·rw[hts,Gm.pQ _ (by trivial),if_pos rfl,HV.out];rfl
   ·rw[Gm.kT _ _ (by intro e;injection e with e;exact hts e),if_neg hts];exact hf t) ai am
  have z7:=Z.cell 7 (u:=.map (some c1.mv)) rfl
  have y0:=aF I 0 (u:=.int .i64 vn) rfl
  have y1:=aF I 1 (u:=.int .i64 p) rfl
  have y2:=aF I 2 (u:=.int .i64 y) rfl
  have ay:q≠c1.mv:=fun e=>al (e▸ak.pv.1)
  have au:w6.heap[q]?=some (.cells #[.int .i64 vn,.int .i64 p,.int .i64 y] 183 (0,0)):=by rw[ai.block q (aB I) (fun e=>ay (by injection e))];exact I
  have z1:=aF au 1 (u:=.int .i64 p) rfl
  have aw:=HH.out.2.1.size
  have U:bM P w w6:=(ap.drew).trans g4 fun b hb hq=>hq.elim id fun h=>absurd h.1 (by omega)
  have HF:Hid (fJ E ns P kb w k (Em.sN s k) (Value.int .i64) (.returned (.int .i64 p)) w6):=by
   refine .inr ⟨p,wased (bF (aU k y) p) s (k.vars s) p,rfl,?_,⟨⟨_,g3.mono fun b hb=>?_⟩,?_,iI HH.out.2.2.1 U.size⟩,U,?_⟩
   ·have:=Hg (k:=k) (s:=s) (by rw[HV.out];exact HW.out)
    rw[<-HP.out.1,HV.out] at this
    rw[HV.out]
    exact this
   ·rcases hb with hb|hb
    ·exact .inl hb
    ·exact .inr ⟨by omega,by have h1:w1.heap.size≤w6.heap.size:=by { rw[<-ar];exact g4.size };omega⟩
   ·exact ah.wased (by omega) (by show (k.vars s).was=-1;rw[HV.out];exact HW.out) HP.out.2.1 (by rw[HV.out];exact j)
   ·show k.net.places≤k.net.places+1;omega
  rw[<-hX]
  clear hX I al aa ak ah ao ae Z ap ar hm hf an am af ag ai ad av g3 g4 au aw U h1 ac d1 f1 D
  go_region
  all_goals
   go_wp2_with fail
   go_ret
   exact HF.out
 ·have t:(Q == -1)=false:=by simpa using hw
  have HF:Hid (fJ E ns P kb w k (Em.sN s k) (Value.int .i64) (.returned (.int .i64 Q)) W):=fJ.below J O (by
   have h1:=fJ.pure (o:=Em.sN s k) (val:=Value.int .i64) (a:=Q) ab (by rw[Hh (by rw[hv];exact hw),hv])
   exact h1)
  clear hc hF J aj ab O n hs hv hS hw
  go_enter Tryz.func230,Tryz.ntmps230
  go_upto_region 2 with fail
  rw[<-hW,<-hq]
  clear hW hq c7 Y
  go_wp2_with fail
  go_ret
  exact HF.out
end
section
variable {P A:Nat->Prop}{w:World}{kb E:Nat}{ns:List bE}{k:Kd}
theorem yL {x:Int}(h:eK E ns P w kb k) (hE:E<1000000) (hx:jF x) :
    Calls Tryz.prog 114 #[.pointer (some ⟨kb,0,none⟩),.int .i64 x] w fun e w'=>e=.returned (.int .i64 k.net.places)/\Hid ((∃c,CM (Up P w w') w' kb (aU k x) c/\c.nv+1≤k.net.first.length+1)/\rQ (E+1) ns (aU k x)/\(∀b,Up P w w' b->b<w'.heap.size)/\bM P w w'):=by
 obtain ⟨⟨c,Q⟩,U,Z⟩:=h
 obtain ⟨i0,hi,aa,ac,ad⟩:=aY8 Im
 have X:w.ownsRow 0 2 1 (c.v 1) k.net.first.length (k.net.first.map (Value.int .i64)):=Q.row 1 (by omega) (by omega)
 obtain ⟨ao,cap,O⟩:=aP X
 have c1:=Q.cell 1 (u:=c.v 1) rfl
 have HC:Hid (_/\_/\_):=⟨Q,U,O⟩
 rw[O] at c1 X
 have hl:=U.few
 have hp:0≤k.net.places/\k.net.places≤1004000:=by have:=U.len;omega
 obtain ⟨p,s⟩:∃p,p=k.net.places:=⟨_,rfl⟩
 have HP:Hid _:=s
 rw[<-s] at hp
 have I:=Q.hk
 rw[<-s] at I
 rw[<-s]
 obtain ⟨n,Y⟩:∃n,n=k.net.first.length:=⟨_,rfl⟩
 have HN:Hid _:=Y
 rw[<-Y] at c1 X hl
 obtain ⟨ah,ae⟩:=hp
 have ai:=aB I
 have HK:Hid (w.heap[kb]?=some (.cells (c.cells p).toArray 135 (0,0))/\∀g,(Value.slice ao n cap).ownBlock=some g->g≠kb):=⟨I,fun g hg e=>by
  have h1:=Q.pr 1 g (by omega) (by omega) (by rw[O,<-Y];exact hg)
  rw[e,Q.p0.2] at h1;exact absurd h1.2 (by omega)⟩
 have af:IntKind.i64.wrap (p+1)=p+1:=by rw[IntKind.wrap_i64];omega
 have ag:IntKind.i64.wrap (p+1-1)=p:=by rw[IntKind.wrap_i64];omega
 clear Q U O s Y I
 go_enter Tryz.func114,Tryz.ntmps114
 go_wp2_with (at_builtin;refine wpList_append_own_at _ rfl (.tmp 10) (.tmp 12) 22 rfl 0 2 i0 _ 1 8 Tryz.underlying22 hi aa ac ad rfl (by decide) _ _ _ rfl (X.alloc _) ⟨w.heap.size,0,none⟩ 1 1 [.int .i64 x] rfl rfl (eN _ _ _) (by intro u hu;simp at hu;subst hu;rfl) (by unfold maxLen;omega) (by omega) (by simp) ?_;intro v5 w5 y D _ ab;obtain ⟨a5,m5,e5⟩:=aP y;subst e5;have J:w5.heap[kb]?=some (.cells (c.cells p).toArray 135 (0,0)):=by { rw[D.block kb (by simp;omega) (fun e=>(HK.out.2 kb e.symm) rfl),eB HK.out.1] };have d0:=aF J 0 (u:=.int .i64 p) rfl;have d1:=aF J 1 (u:=c.v 1) rfl;have f0:=aG J 0;have f1:=aG J 1)
 go_ret
 refine ⟨rfl,?_⟩
 obtain ⟨hC,U,O⟩:=HC.out
 rw[<-HN.out] at O
 obtain ⟨g1,g2⟩:=hC.grow (i:=1) (by omega) (by omega) (w0:=w.alloc (.cells #[.int .i64 x] 2)) (n5:={ k.net with first:=k.net.first++[x] }) (aL _ _) (new:=[.int .i64 x]) (by show World.ownsRow _ _ _ _ _ (k.net.first.length+1) _;rw[<-HN.out];exact y) (by rw[O];exact D) (by rw[O];exact ab) rfl (fun j hj=>by unfold rB pP;split<;>first|exact absurd rfl hj|exact ⟨rfl,rfl⟩) ⟨by simp[rB],by simp[pP]⟩
 obtain ⟨g3,g4⟩:=g1.setP (p+1)
 have e:aU k x={ ({ k with net:={ k.net with first:=k.net.first++[x] } }:Kd) with net:={ ({ k with net:={ k.net with first:=k.net.first++[x] } }:Kd).net with places:=p+1 } }:=by rw[HP.out];rfl
 rw[<-e] at g3
 exact ⟨⟨_,g3.mono (Up.size g4.size),Nat.succ_le_succ hC.nv⟩,U.place hE hx,iI Z (g2.trans g4 fun b hb hq=>hq.elim id fun h=>absurd h.1 (by omega)).size,g2.trans g4 fun b hb hq=>hq.elim id fun h=>absurd h.1 (by omega)⟩
theorem Lz {x:Int}(h:eK E ns P w kb k) (hE:E<1000000) (hx:jF x) :
    Calls Tryz.prog 115 #[.pointer (some ⟨kb,0,none⟩),.int .i64 x] w fun e w'=>e=.returned (.int .i64 k.net.places)/\Hid ((∃c,CM (Up P w w') w' kb (bF (aU k x) k.net.places) c/\c.nv+1≤k.net.first.length+1)/\rQ (E+1) ns (bF (aU k x) k.net.places)/\(∀b,Up P w w' b->b<w'.heap.size)/\bM P w w'):=by
 have s:=yL h hE hx
 have HH:Hid (rQ E ns k/\∀b,P b->b<w.heap.size):=h.2
 obtain ⟨i0,hi,aa,ac,ad⟩:=aY8 Sk
 obtain ⟨p,hp⟩:∃p,p=k.net.places:=⟨_,rfl⟩
 rw[<-hp] at s ⊢
 clear h hp
 go_enter Tryz.func115,Tryz.ntmps115
 go_upto_region 2 with (go_at_call 114;refine s.mono ?_;rintro e w1 ⟨rfl,Z⟩)
 obtain ⟨⟨c,U,J⟩,hF,ae,y⟩:=Z.out
 have hr:w1.ownsRow 0 3 1 (c.v 4) (aU k x).net.keeps.length ((aU k x).net.keeps.map (Value.int .i64)):=U.row 4 (by omega) (by omega)
 obtain ⟨ao,cap,O⟩:=aP hr
 have c1:=U.cell 4 (u:=c.v 4) rfl
 have HC:Hid (_/\_/\_/\_):=⟨U,O,y,J⟩
 rw[O] at c1 hr
 have hl:=hF.few
 have X:=hF.keeps
 obtain ⟨n,hn⟩:∃n,n=(aU k x).net.keeps.length:=⟨_,rfl⟩
 have HN:Hid _:=hn
 rw[<-hn] at c1 hr X
 have Q:=U.hk
 have ag:=aB Q
 have HK:Hid (w1.heap[kb]?=some (.cells (c.cells (aU k x).net.places).toArray 135 (0,0))/\∀g,(Value.slice ao n cap).ownBlock=some g->g≠kb):=⟨Q,fun g hg e=>by
  have Z:=U.pr 4 g (by omega) (by omega) (by rw[O,<-hn];exact hg)
  rw[e,U.p0.2] at Z;exact absurd Z.2 (by omega)⟩
 have af:n≤1004000:=by omega
 clear U hF O hn Q hl X y Z s J
 go_wp2_with (at_builtin;refine wpList_append_own_at _ rfl (.tmp 14) (.tmp 16) 23 rfl 0 3 i0 _ 1 8 Tryz.underlying23 hi aa ac ad rfl (by decide) _ _ _ rfl (hr.alloc _) ⟨w1.heap.size,0,none⟩ 1 1 [.int .i64 p] rfl rfl (eN _ _ _) (by intro u hu;simp at hu;subst hu;rfl) (by unfold maxLen;omega) (by omega) (by simp) ?_;intro v5 w5 D I _ ab;obtain ⟨a5,m5,e5⟩:=aP D;subst e5;have Y:w5.heap[kb]?=some (.cells (c.cells (aU k x).net.places).toArray 135 (0,0)):=by { rw[I.block kb (by simp;omega) (fun e=>(HK.out.2 kb e.symm) rfl),eB HK.out.1] };have d1:=aF Y 4 (u:=c.v 4) rfl;have f1:=aG Y 4)
 go_ret
 refine ⟨rfl,?_⟩
 obtain ⟨hC,O,y,J⟩:=HC.out
 rw[<-HN.out] at O
 obtain ⟨g1,g2⟩:=hC.grow (i:=4) (by omega) (by omega) (w0:=w1.alloc (.cells #[.int .i64 p] 3)) (n5:=(bF (aU k x) p).net) (aL _ _) (new:=[.int .i64 p]) (by show World.ownsRow _ _ _ _ _ ((aU k x).net.keeps.length+1) _;rw[<-HN.out];exact D) (by rw[O];exact I) (by rw[O];exact ab) rfl (fun j hj=>by unfold rB pP;split<;>first|exact absurd rfl hj|exact ⟨rfl,rfl⟩) ⟨by simp[rB,bF],by simp[pP,bF]⟩
 exact ⟨⟨_,g1.mono (Up.up y.size g2.size),J⟩,HH.out.1.kept hE hx,iI HH.out.2 (y.up g2).size,y.up g2⟩
theorem Zj {l:List bQ}{v:Value}(h:mJ A w l v) :
    ∃ad g cap,v=.slice ad l.length cap/\l.length≤maxLen/\(0<l.length->ad=some ⟨g,0,none⟩/\A g)/\∀(i:Nat) (a:bQ),l[i]?=some a->w.cell? ⟨g,i*3,none⟩=some (.int .i64 (a.kind:Int))/\w.cell? ⟨g,i*3+1,none⟩=some (sv a.name)/\w.cell? ⟨g,i*3+2,none⟩=some (.int .i64 a.first):=by
 obtain ⟨Q,y,D⟩:=h
 obtain ⟨ad,g,cap,O,u,s,J⟩:=wU.open (k:=3) (fun a c j=>by rw[show c=_ from j];rfl) y D
 refine ⟨ad,g,cap,O,u,fun n=>⟨(s n).1,(s n).2.1⟩,fun i a I=>?_⟩
 obtain ⟨c,j,hx⟩:=J i a I
 obtain rfl:c=_:=j
 exact ⟨hx 0 _ rfl,hx 1 _ rfl,hx 2 _ rfl⟩
def CM1 (E:Nat) (ns:List bE) (P:Nat->Prop) (w:World) (kb:Nat) (k:Kd):Prop:=(∃c,CM P w kb k c/\c.nv+1≤k.net.first.length)/\rQ E ns k/\(∀b,P b->b<w.heap.size)/\k.net.first.length+ns.length≤k.net.code.length+E
def nM (k:Kd) (p:Int):Kd:={ k with net:={ k.net with ins:=k.net.ins++[p] } }
def lV (k:Kd) (p:Int):Kd:={ k with net:={ k.net with outs:=k.net.outs++[p] } }
def jU (k:Kd) (s:bE) (v:Vr):Kd:={ k with vars:=fun t=>if t=s then v else k.vars t }
theorem An:yP ns k≤ns.length:=List.length_filter_le _ _
theorem rQ.ofPot {c:Kd}(h:rQ E ns k) (U:k.net.first.length+ns.length≤k.net.code.length+E) (j:c.net.first=k.net.first) (J:c.net.places=k.net.places) (n:c.net.code=k.net.code) (I:c.net.keeps=k.net.keeps) (u:c.net.nums=k.net.nums) (O:c.net.ins.length≤k.net.first.length) (y:c.net.outs.length≤k.net.first.length) (D:∀s,jF (c.vars s).first) (Q:∀s,s∉ns->(c.vars s).was≠-1):rQ E ns c:=by
 have:=An (ns:=ns) (k:=c)
 refine ⟨by rw[j,J];exact h.len,by rw[j,n];omega,by rw[n];exact h.code,by rw[j,I];exact h.keeps,by rw[j];exact O,by rw[j];exact y,by rw[n,u];exact h.nums,h.e,by rw[j];exact h.nf,by rw[u];exact h.nn,D,Q⟩
theorem CM1.put (h:CM1 E ns P w kb k) {s:bE}{v:Vr}(hs:s.length≤maxLen) (O:s∈ns) (hv:jF v.first) (S:Value) (hS:S=sv s):∃mv w6,w.cell? ⟨kb,7,none⟩=some (.map (some mv))/\(Instr.mapUpdate 132 (.map (some mv)) S (.agg #[.int .i64 v.now,.int .i64 v.was,.int .i64 v.first])).run Tryz.prog w.drew=.ok () w6/\eK E ns P w6 kb (jU k s v)/\bM P w w6:=by
 obtain ⟨⟨c,U,aa⟩,j,y,n⟩:=h
 obtain ⟨f,hm,Z⟩:=U.hv
 have Q:Gm.Mp Tryz.prog 9 w.drew c.mv c.nv f:=hm.keep rfl
 obtain ⟨w6,u,D,I⟩:=Q.put sT Tryz.underlying132 (by have:=j.few;unfold maxLen;omega) (Pq hs) (Jo v)
 have J:CM P w.drew kb k c:=U.carry fun b hb _=>⟨hb,rfl⟩
 obtain ⟨g3,X⟩:=J.setV (vars':=(jU k s v).vars) D (fun t=>by
  show ((Gm.put f _ _) _).getD _=Jo (if t=s then v else k.vars t)
  by_cases hts:t=s
  ·rw[hts,Gm.pQ _ (by trivial),if_pos rfl];rfl
  ·rw[Gm.kT _ _ (by intro e;injection e with e;exact hts e),if_neg hts];exact Z t) I (by split<;>omega)
 refine ⟨c.mv,w6,U.cell 7 rfl,by rw[hS];exact u,⟨⟨_,g3⟩,j.ofPot n rfl rfl rfl rfl rfl j.ins j.outs (fun t=>?_) (fun t Y=>?_),fun b hb=>aO2 (y b hb) X.size⟩,(bM.refl P w).drew.trans X fun _ _ h=>h⟩
 ·show jF (if t=s then v else k.vars t).first
  split
  ·exact hv
  ·exact j.vf t
 ·show (if t=s then v else k.vars t).was≠-1
  rw[if_neg (fun e:t=s=>Y (e▸O))];exact j.out t Y
end
def Ro (A P:Nat->Prop) (w:World):Prop:=∀b,A b->b<w.heap.size/\¬P b
section
variable {P A:Nat->Prop}{w w':World}{kb E:Nat}{ns:List bE}{k:Kd}
theorem Ro.up (h:Ro A P w) (hs:w.heap.size≤w'.heap.size):Ro A (Up P w w') w':=fun b hb=>⟨aO2 (h b hb).1 hs,fun hu=>hu.elim (h b hb).2 fun hn=>absurd hn.1 (by have:=(h b hb).1;omega)⟩
theorem Ro.size (h:Ro A P w) (hs:w.heap.size≤w'.heap.size):Ro A P w':=fun b hb=>⟨aO2 (h b hb).1 hs,(h b hb).2⟩
theorem Ro.keep (h:Ro A P w) (hf:bM P w w'):bB A A w w':=hf.keep fun b hb=>(h b hb).2
def Oa (A:Nat->Prop) (kb E:Nat) (ns:List bE) (e:Px.E):Prop:=∀{P:Nat->Prop}{w:World}{k:Kd}{v:Value},jR A w e v->eK E ns P w kb k->Ro A P w->
 Calls Tryz.prog 206 #[.pointer (some ⟨kb,0,none⟩),v] w (fJ E ns P kb w k (Em.eP e k) (Value.int .i64))
theorem Bn (x y z:Int) (w:World):(Instr.field 183 (.agg #[.int .i64 x,.int .i64 y,.int .i64 z]) 0).run Tryz.prog w=.ok (.int .i64 x) w:=by kernel_rfl
theorem aN1 (y:E<1000000):Oa A kb E ns .nil:=by
 intro P w k v D h _
 obtain rfl:v=.pointer none:=D
 have c:=dP (n:=0) h y jF.zero
 clear h
 show Calls _ _ _ _ (fJ E ns P kb w k (Em.bS 0 k) (Value.int .i64))
 go_enter Tryz.func206,Tryz.ntmps206
 go_wp2_with (go_at_call 207;refine c.mono ?_;rintro e w1 (⟨rfl,s,j⟩|⟨p,u,rfl,s,j⟩);(· exact ⟨rfl,.inl ⟨rfl,s,j⟩⟩))
 go_ret
 exact .inr ⟨p,u,rfl,s,j⟩
section
variable {b o:Nat}{a:Nd}{l r:Px.E}
theorem Bu (h:a.code=1):Em.eP (.node b o a l r) k=Em.bS a.num k:=by rw[Em.eP,if_pos h]
theorem Bo (h:a.code=2):Em.eP (.node b o a l r) k=some ((k.vars a.name).now,k):=by rw[Em.eP,if_neg (by omega),if_pos h];rfl
theorem Bq (h:a.code=3):Em.eP (.node b o a l r) k=Em.sN a.name k:=by rw[Em.eP,if_neg (by omega),if_neg (by omega),if_pos h]
theorem Bt (h:a.code=4\/a.code=5):Em.eP (.node b o a l r) k=(Em.eP l >>= fun x=>Em.made a.code x 0 0) k:=by rw[Em.eP,if_neg (by omega),if_neg (by omega),if_neg (by omega),if_pos h]
theorem Is (h1:a.code=0\/16<a.code):Em.eP (.node b o a l r) k=Em.bS 0 k:=by rw[Em.eP,if_neg (by omega),if_neg (by omega),if_neg (by omega),if_neg (by omega),if_pos (by omega)]
theorem Bp (h1:6≤a.code) (h2:a.code≤16):Em.eP (.node b o a l r) k=(Em.eP l >>= fun x=>Em.eP r >>= fun y=>Em.made a.code x y 0) k:=by rw[Em.eP,if_neg (by omega),if_neg (by omega),if_neg (by omega),if_neg (by omega),if_neg (by omega)]
end
theorem aL8 (hE:E<1000000) {b o:Nat}{a:Nd}{l r:Px.E}(hn:a.name.length≤maxLen) (hx:jF a.num) (O:Oa A kb E ns l) (X:Oa A kb E ns r):Oa A kb E ns (.node b o a l r):=by
 intro P w k v hv h hR
 obtain ⟨g,lv,rv,rfl,Q,Z,hl,hr⟩:=hv
 obtain ⟨pl,rfl⟩:=hl.pt'
 obtain ⟨pr,rfl⟩:=hr.pt'
 obtain ⟨s,D⟩:∃s:Int,s=(a.code:Int):=⟨_,rfl⟩
 obtain ⟨S,hS⟩:∃S,Value.string S=sv a.name:=⟨_,rfl⟩
 rw[<-D,<-hS] at Z
 have HG:Hid (w.heap[g]?=some (.cells #[.int .i64 s,.int .i64 a.num,.string S,.pointer pl,.pointer pr] 307 (0,0))/\A g):=⟨Z,Q⟩
 have g0:=aF Z 0 (u:=.int .i64 s) rfl
 have HP:Hid (∀b,P b->b<w.heap.size):=h.2.2
 by_cases j:a.code=1
 ·rw[Bu j]
  have g1:=aF Z 1 (u:=.int .i64 a.num) rfl
  have ab:=dP h hE hx
  have t1:(s==1)=true:=by rw[D,j];rfl
  clear h hR Z hl hr D hS O X j Q
  go_enter Tryz.func206,Tryz.ntmps206
  go_wp2_with (go_at_call 207;refine ab.mono ?_;rintro e w1 (⟨rfl,I,j⟩|⟨p,k1,rfl,I,j⟩);(· exact ⟨rfl,.inl ⟨rfl,I,j⟩⟩))
  go_ret
  exact .inr ⟨p,k1,rfl,I,j⟩
 have t1:(s==1)=false:=by rw[beq_eq_false_iff_ne];omega
 by_cases Y:a.code=2
 ·rw[Bo Y]
  have t2:(s==2)=true:=by rw[beq_iff_eq];omega
  have g2:=aF Z 2 (u:=.string S) rfl
  obtain ⟨⟨c,hc⟩,hF,af⟩:=h
  have c7:=hc.cell 7 (u:=.map (some c.mv)) rfl
  have ah:∀m,(Instr.lookup 132 (.map (some c.mv)) (.string S) false).run Tryz.prog (w.drewN m)=.ok (.agg #[.int .i64 (k.vars a.name).now,.int .i64 (k.vars a.name).was,.int .i64 (k.vars a.name).first]) (w.drewN m):=fun m=>by
   rw[hS]
   exact (CM.lookV (P:=P) (kb:=kb) (hc.carry (w':=w.drewN m) fun b hb _=>⟨hb,rfl⟩) hn)
  have HF:Hid (∀m,fJ E ns P kb w k (some ((k.vars a.name).now,k)) (Value.int .i64) (.returned (.int .i64 (k.vars a.name).now)) (w.drewN m)):=fun m=>fJ.below (w1:=w.drewN m) af ⟨rfl,rfl,rfl,aN4 _,fun _ _=>rfl⟩ (fJ.pure ⟨⟨c,hc.carry (w':=w.drewN m) fun b hb _=>⟨hb,rfl⟩⟩,hF,af⟩ rfl)
  clear hR Z hl hr D hS O X j Y Q hc hF af
  go_enter Tryz.func206,Tryz.ntmps206
  go_wp2_with fail
  have ao:(Instr.lookup 132 (.map (some c.mv)) (.string S) false).run Tryz.prog w.drew=.ok (.agg #[.int .i64 (k.vars a.name).now,.int .i64 (k.vars a.name).was,.int .i64 (k.vars a.name).first]) w.drew:=ah 1
  clear ah
  have ap:=Bn
  go_region
  all_goals
   go_wp2_with fail
   go_ret
   exact HF.out 1
 have t2:(s==2)=false:=by rw[beq_eq_false_iff_ne];omega
 by_cases J:a.code=3
 ·rw[Bq J]
  have t3:(s==3)=true:=by rw[beq_iff_eq];omega
  have g2:=aF Z 2 (u:=.string S) rfl
  have ad:=Vu hn h hE
  rw[<-hS] at ad
  clear h hR Z hl hr D hS O X j Y J Q
  go_enter Tryz.func206,Tryz.ntmps206
  go_wp2_with (go_at_call 230;refine ad.mono ?_;rintro e w1 (⟨rfl,I,j⟩|⟨p,k1,rfl,I,j⟩);(· exact ⟨rfl,.inl ⟨rfl,I,j⟩⟩))
  go_ret
  exact .inr ⟨p,k1,rfl,I,j⟩
 have t3:(s==3)=false:=by rw[beq_eq_false_iff_ne];omega
 by_cases h4:a.code=4\/a.code=5
 ·rw[Bt h4]
  have HR:Hid (Ro A P w/\(a.code:Int)=s):=⟨hR,D.symm⟩
  have hdr:Below w.heap.size w w.drew:=⟨rfl,rfl,rfl,aN4 _,fun _ _=>rfl⟩
  have aj:jR A w.drew l (.pointer pl):=jR.carry (w:=w) (w':=w.drew) (A':=A) (fun b hb _=>⟨hb,rfl⟩) hl
  have ac:=O aj (h.below hdr) (hR.size (aN4 _))
  have ae:Hid (Below w.heap.size w w.drew):=hdr
  have g3:=aF Z 3 (u:=.pointer pl) rfl
  have am:((s==4)=true)\/((s==4)=false/\(s==5)=true):=by
   rcases h4 with h4|h4
   ·left;rw[beq_iff_eq];omega
   ·right;exact ⟨by rw[beq_eq_false_iff_ne];omega,by rw[beq_iff_eq];omega⟩
  clear h hR Z hl aj hr D hS O X j Y J h4 Q hdr
  rcases am with t4|⟨t4,t5⟩
  all_goals
   go_enter Tryz.func206,Tryz.ntmps206
   go_wp2_with fail
   go_region_law (first
    | (go_simp;go_at_call 206;refine ac.mono ?_;rintro e w1 (⟨rfl,I,j⟩|⟨x,k1,rfl,I,j⟩);(· exact ⟨rfl,.inl ⟨rfl,aH I.out,(bM.of_below ae.out).trans j.out fun _ _ h=>h⟩⟩);have aa:=j.out.2.1.heap (show w.drew.heap[g]?=_ from HG.out.1) (HR.out.1 g HG.out.2).2;have k0:=aF aa 0 (u:=.int .i64 s) rfl;have U:=gU s x 0 0 j.out.1 hE;clear aa)
    | (go_simp;go_at_call 205;refine U.mono ?_;rintro e w2 (⟨rfl,Y,J⟩|⟨p,k2,rfl,Y,J⟩);(· exact ⟨rfl,fJ.below HP.out ae.out (fJ.up (w:=w.drew) HP.out j.out.2.1 j.out.2.2 (by rw[bind_some I.out,HR.out.2]) (.inl ⟨rfl,Y,J⟩))⟩)))
   all_goals
    go_wp2_with fail
    go_ret
    exact fJ.below HP.out ae.out (fJ.up (w:=w.drew) HP.out j.out.2.1 j.out.2.2 (by rw[bind_some I.out,HR.out.2]) (.inr ⟨p,k2,rfl,Y,J⟩))
 have t4:(s==4)=false:=by rw[beq_eq_false_iff_ne];omega
 have t5:(s==5)=false:=by rw[beq_eq_false_iff_ne];omega
 by_cases h5:a.code=0\/16<a.code
 ·rw[Is h5]
  have ab:=dP (n:=0) h hE jF.zero
  have hq:s<6\/(¬s<6/\16<s):=by omega
  clear h hR Z hl hr D hS O X j Y J h4 h5 Q
  rcases hq with hq|⟨hq,an⟩
  all_goals
   go_enter Tryz.func206,Tryz.ntmps206
   go_wp2_with (go_at_call 207;refine ab.mono ?_;rintro e w1 (⟨rfl,I,j⟩|⟨p,k1,rfl,I,j⟩);(· exact ⟨rfl,.inl ⟨rfl,I,j⟩⟩))
   go_ret
   exact .inr ⟨p,k1,rfl,I,j⟩
 ·rw[Bp (by omega) (by omega)]
  have hq:¬s<6:=by omega
  have an:¬16<s:=by omega
  have g3:=aF Z 3 (u:=.pointer pl) rfl
  have ac:=O hl h hR
  have HR:Hid (Ro A P w/\(a.code:Int)=s/\jR A w r (.pointer pr)/\Oa A kb E ns r):=⟨hR,D.symm,hr,X⟩
  clear h hR Z hl hr D hS O X j Y J h4 h5 Q
  go_enter Tryz.func206,Tryz.ntmps206
  go_upto_region 16 with (go_at_call 206;refine ac.mono ?_;rintro e w1 (⟨rfl,I,j⟩|⟨x,k1,rfl,I,j⟩);(· exact ⟨rfl,.inl ⟨rfl,aH I.out,j⟩⟩))
  have aa:=j.out.2.1.heap HG.out.1 (HR.out.1 g HG.out.2).2
  have ag:=HR.out.1.up j.out.2.1.size
  have k4:=aF aa 4 (u:=.pointer pr) rfl
  have ak:=HR.out.2.2.2 (HR.out.2.2.1.carry (HR.out.1.keep j.out.2.1)) j.out.1 ag
  have al:Hid (w1.heap[g]?=some (.cells #[.int .i64 s,.int .i64 a.num,.string S,.pointer pl,.pointer pr] 307 (0,0))/\¬Up P w w1 g):=⟨aa,(ag g HG.out.2).2⟩
  clear aa ag ac g0 g3
  go_upto_region 17 with (go_at_call 206;refine ak.mono ?_;rintro e w2 (⟨rfl,Y,J⟩|⟨y,k2,rfl,Y,J⟩);(· exact ⟨rfl,fJ.up HP.out j.out.2.1 j.out.2.2 (bind_some I.out) (.inl ⟨rfl,aH Y.out,J⟩)⟩))
  have ai:=J.out.2.1.heap al.out.1 al.out.2
  have k0:=aF ai 0 (u:=.int .i64 s) rfl
  have U:=gU s x y 0 J.out.1 hE
  clear ai ak k4
  have e1:Hid ((Em.eP l >>= fun x=>Em.eP r >>= fun y=>Em.made a.code x y 0) k=(Em.eP r >>= fun y=>Em.made a.code x y 0) k1):=bind_some I.out
  have e2:Hid ((Em.eP r >>= fun y=>Em.made a.code x y 0) k1=Em.made s x y 0 k2):=by rw[Hid,bind_some Y.out,HR.out.2.1]
  go_wp2_with (go_at_call 205;refine U.mono ?_;rintro e w3 (⟨rfl,h4,h5⟩|⟨p,k3,rfl,h4,h5⟩);(· exact ⟨rfl,fJ.up HP.out j.out.2.1 j.out.2.2 e1.out (fJ.up j.out.1.2.2 J.out.2.1 J.out.2.2 e2.out (.inl ⟨rfl,h4,h5⟩))⟩))
  go_ret
  exact fJ.up HP.out j.out.2.1 j.out.2.2 e1.out (fJ.up j.out.1.2.2 J.out.2.1 J.out.2.2 e2.out (.inr ⟨p,k3,rfl,h4,h5⟩))
theorem lN (c:E<1000000):∀e:Px.E,sG e->Oa A kb E ns e:=by
 intro e
 induction e with
 | nil=>intro _;exact aN1 c
 | node b o a l r ihl ihr=>intro h;exact aL8 c h.1 h.2.1 (ihl h.2.2.1) (ihr h.2.2.2)
end
end Ew
end
end Go.Proofs.YthieaobjdpfcoaaGreatDoor
