import Derived.Test.YthieaobjdpfcoaaGreatDoorVEe
set_option maxRecDepth 100000
set_option maxHeartbeats 4000000
namespace Go.Proofs.YthieaobjdpfcoaaGreatDoor
open Go.Proofs.Tryz (prog)
section
open Go.RowKit Px
namespace Ew
open Px.Em (Kd Vr)
open Nx (Nt Sp)
section
variable {P A:Nat->Prop}{w:World}{kb E:Nat}{ns:List bE}{k:Kd}
theorem yL {x:Int}(h:eK E ns P w kb k) (hE:E<1000000) (hx:jF x) :
 Calls prog 114 #[.pointer (some ⟨kb,0,none⟩),.int .i64 x] w fun e w'=>e=.returned (.int .i64 k.net.places)/\Hid ((∃c,CM (Up P w w') w' kb (aU k x) c/\c.nv+1≤k.net.first.length+1)/\rQ (E+1) ns (aU k x)/\(∀b,Up P w w' b->b<w'.heap.size)/\bM P w w'):=by
 obtain ⟨⟨c,Q⟩,U,Z⟩:=h
 obtain ⟨i0,hi,aa,ac,ad⟩:=aZ1 Im
 have X:w.ownsRow 0 2 1 (c.v 1) k.net.first.length (k.net.first.map (Value.int .i64)):=Q.row 1 (by omega) (by omega)
 obtain ⟨ao,cap,O⟩:=aP X
 have c1:=Q.cell 1 (u:=c.v 1) rfl
 have HC:Hid (_/\_/\_):=⟨Q,U,O⟩
 rw[O] at c1 X
 have hl:=U.few
 have hp:0≤k.net.places/\k.net.places≤1004000:=by have:=U.len;omega
 obtain ⟨p,s⟩:=gQx k.net.places
 have HP:Hid _:=s
 rw[<-s] at hp
 have I:=Q.hk
 rw[<-s] at I
 rw[<-s]
 obtain ⟨n,Y⟩:=gQx k.net.first.length
 have HN:Hid _:=Y
 rw[<-Y] at c1 X hl
 obtain ⟨ah,ae⟩:=hp
 have ai:=aB I
 have HK:Hid (w.heap[kb]?=some (.cells (c.cells p).toArray 135 (0,0))/\∀g,(Value.slice ao n cap).ownBlock=some g->g≠kb):=⟨I,fun g hg e=>by
  have h1:=Q.pr 1 g (by omega) (by omega) (by rw[O,<-Y];exact hg)
  rw[e,Q.p0.2] at h1;exact absurd h1.2 (by omega)⟩
 have af:IntKind.i64.wrap (p+1)=p+1:=by rw[IntKind.wrap_i64];omega
 have ag:IntKind.i64.wrap (p+1-1)=p:=by rw[IntKind.wrap_i64];omega
 clear Q U O s Y I
 go_enter Tryz.func114,Tryz.ntmps114
 go_wp2_with (at_builtin;refine wpList_append_own_at _ rfl (.tmp 10) (.tmp 12) 22 rfl 0 2 i0 _ 1 8 Tryz.underlying22 hi aa ac ad rfl (by decide) _ _ _ rfl (X.alloc _) ⟨w.heap.size,0,none⟩ 1 1 [.int .i64 x] rfl rfl (eN _ _ _) (by intro u hu;simp at hu;subst hu;rfl) (by unfold maxLen;omega) (by omega) (by simp) ?_;intro v5 w5 y D _ ab;obtain ⟨a5,m5,e5⟩:=aP y;subst e5;have J:w5.heap[kb]?=some (.cells (c.cells p).toArray 135 (0,0)):=by { rw[D.block kb (by simp;omega) (fun e=>(HK.out.2 kb e.symm) rfl),eB HK.out.1] };have d0:=aF J 0 (u:=.int .i64 p) rfl;have d1:=aF J 1 (u:=c.v 1) rfl;have f0:=aG J 0;have f1:=aG J 1)
 go_ret
 refine ⟨rfl,?_⟩
 obtain ⟨hC,U,O⟩:=HC.out
 rw[<-HN.out] at O
 obtain ⟨g1,g2⟩:=hC.grow (i:=1) (by omega) (by omega) (w0:=w.alloc (.cells #[.int .i64 x] 2)) (n5:={ k.net with first:=k.net.first++[x] }) (aL _ _) (new:=[.int .i64 x]) (by show World.ownsRow _ _ _ _ _ (k.net.first.length+1) _;rw[<-HN.out];exact y) (by rw[O];exact D) (by rw[O];exact ab) rfl (fun j hj=>by unfold rB pP;split<;>first|exact absurd rfl hj|exact ⟨rfl,rfl⟩) ⟨by simp[rB],by simp[pP]⟩
 obtain ⟨g3,g4⟩:=g1.setP (p+1)
 have e:aU k x={ ({ k with net:={ k.net with first:=k.net.first++[x] } }:Kd) with net:={ ({ k with net:={ k.net with first:=k.net.first++[x] } }:Kd).net with places:=p+1 } }:=by rw[HP.out];rfl
 rw[<-e] at g3
 exact ⟨⟨_,g3.mono (Up.size g4.size),Nat.succ_le_succ hC.nv⟩,U.place hE hx,iI Z (g2.trans g4 fun b hb hq=>hq.elim id fun h=>absurd h.1 (by omega)).size,g2.trans g4 fun b hb hq=>hq.elim id fun h=>absurd h.1 (by omega)⟩
theorem Lz {x:Int}(h:eK E ns P w kb k) (hE:E<1000000) (hx:jF x) :
 Calls prog 115 #[.pointer (some ⟨kb,0,none⟩),.int .i64 x] w fun e w'=>e=.returned (.int .i64 k.net.places)/\Hid ((∃c,CM (Up P w w') w' kb (bF (aU k x) k.net.places) c/\c.nv+1≤k.net.first.length+1)/\rQ (E+1) ns (bF (aU k x) k.net.places)/\(∀b,Up P w w' b->b<w'.heap.size)/\bM P w w'):=by
 have s:=yL h hE hx
 have HH:Hid (rQ E ns k/\∀b,P b->b<w.heap.size):=h.2
 obtain ⟨i0,hi,aa,ac,ad⟩:=aZ1 Sk
 obtain ⟨p,hp⟩:=gQx k.net.places
 rw[<-hp] at s ⊢
 clear h hp
 go_enter Tryz.func115,Tryz.ntmps115
 go_upto_region 2 with (go_at_call 114;refine s.mono ?_;rintro e w1 ⟨rfl,Z⟩)
 obtain ⟨⟨c,U,J⟩,hF,ae,y⟩:=Z.out
 have hr:w1.ownsRow 0 3 1 (c.v 4) (aU k x).net.keeps.length ((aU k x).net.keeps.map (Value.int .i64)):=U.row 4 (by omega) (by omega)
 obtain ⟨ao,cap,O⟩:=aP hr
 have c1:=U.cell 4 (u:=c.v 4) rfl
 have HC:Hid (_/\_/\_/\_):=⟨U,O,y,J⟩
 rw[O] at c1 hr
 have hl:=hF.few
 have X:=hF.keeps
 obtain ⟨n,hn⟩:=gQx ((aU k x).net.keeps.length)
 have HN:Hid _:=hn
 rw[<-hn] at c1 hr X
 have Q:=U.hk
 have ag:=aB Q
 have HK:Hid (w1.heap[kb]?=some (.cells (c.cells (aU k x).net.places).toArray 135 (0,0))/\∀g,(Value.slice ao n cap).ownBlock=some g->g≠kb):=⟨Q,fun g hg e=>by
  have Z:=U.pr 4 g (by omega) (by omega) (by rw[O,<-hn];exact hg)
  rw[e,U.p0.2] at Z;exact absurd Z.2 (by omega)⟩
 have af:n≤1004000:=by omega
 clear U hF O hn Q hl X y Z s J
 go_wp2_with (at_builtin;refine wpList_append_own_at _ rfl (.tmp 14) (.tmp 16) 23 rfl 0 3 i0 _ 1 8 Tryz.underlying23 hi aa ac ad rfl (by decide) _ _ _ rfl (hr.alloc _) ⟨w1.heap.size,0,none⟩ 1 1 [.int .i64 p] rfl rfl (eN _ _ _) (by intro u hu;simp at hu;subst hu;rfl) (by unfold maxLen;omega) (by omega) (by simp) ?_;intro v5 w5 D I _ ab;obtain ⟨a5,m5,e5⟩:=aP D;subst e5;have Y:w5.heap[kb]?=some (.cells (c.cells (aU k x).net.places).toArray 135 (0,0)):=by { rw[I.block kb (by simp;omega) (fun e=>(HK.out.2 kb e.symm) rfl),eB HK.out.1] };have d1:=aF Y 4 (u:=c.v 4) rfl;have f1:=aG Y 4)
 go_ret
 refine ⟨rfl,?_⟩
 obtain ⟨hC,O,y,J⟩:=HC.out
 rw[<-HN.out] at O
 obtain ⟨g1,g2⟩:=hC.grow (i:=4) (by omega) (by omega) (w0:=w1.alloc (.cells #[.int .i64 p] 3)) (n5:=(bF (aU k x) p).net) (aL _ _) (new:=[.int .i64 p]) (by show World.ownsRow _ _ _ _ _ ((aU k x).net.keeps.length+1) _;rw[<-HN.out];exact D) (by rw[O];exact I) (by rw[O];exact ab) rfl (fun j hj=>by unfold rB pP;split<;>first|exact absurd rfl hj|exact ⟨rfl,rfl⟩) ⟨by simp[rB,bF],by simp[pP,bF]⟩
 exact ⟨⟨_,g1.mono (Up.up y.size g2.size),J⟩,HH.out.1.kept hE hx,iI HH.out.2 (y.up g2).size,y.up g2⟩
theorem Zj {l:List bQ}{v:Value}(h:mJ A w l v) :
    ∃ad g cap,v=.slice ad l.length cap/\l.length≤maxLen/\(0<l.length->ad=some ⟨g,0,none⟩/\A g)/\∀(i:Nat) (a:bQ),l[i]?=some a->w.cell? ⟨g,i*3,none⟩=some (.int .i64 (a.kind:Int))/\w.cell? ⟨g,i*3+1,none⟩=some (sv a.name)/\w.cell? ⟨g,i*3+2,none⟩=some (.int .i64 a.first):=by
 obtain ⟨Q,y,D⟩:=h
 obtain ⟨ad,g,cap,O,u,s,J⟩:=wU.open (k:=3) (fun a c j=>by rw[show c=_ from j];rfl) y D
 refine ⟨ad,g,cap,O,u,fun n=>⟨(s n).1,(s n).2.1⟩,fun i a I=>?_⟩
 obtain ⟨c,j,hx⟩:=J i a I
 obtain rfl:c=_:=j
 exact ⟨hx 0 _ rfl,hx 1 _ rfl,hx 2 _ rfl⟩
def CM1 (E:Nat) (ns:List bE) (P:Nat->Prop) (w:World) (kb:Nat) (k:Kd):Prop:=(∃c,CM P w kb k c/\c.nv+1≤k.net.first.length)/\rQ E ns k/\(∀b,P b->b<w.heap.size)/\k.net.first.length+ns.length≤k.net.code.length+E
def nM (k:Kd) (p:Int):Kd:={ k with net:={ k.net with ins:=k.net.ins++[p] } }
def lV (k:Kd) (p:Int):Kd:={ k with net:={ k.net with outs:=k.net.outs++[p] } }
def jU (k:Kd) (s:bE) (v:Vr):Kd:={ k with vars:=fun t=>if t=s then v else k.vars t }
theorem An:yP ns k≤ns.length:=List.length_filter_le _ _
theorem rQ.ofPot {c:Kd}(h:rQ E ns k) (U:k.net.first.length+ns.length≤k.net.code.length+E) (j:c.net.first=k.net.first) (J:c.net.places=k.net.places) (n:c.net.code=k.net.code) (I:c.net.keeps=k.net.keeps) (u:c.net.nums=k.net.nums) (O:c.net.ins.length≤k.net.first.length) (y:c.net.outs.length≤k.net.first.length) (D:∀s,jF (c.vars s).first) (Q:∀s,s∉ns->(c.vars s).was≠-1):rQ E ns c:=by
 have:=An (ns:=ns) (k:=c)
 refine ⟨by rw[j,J];exact h.len,by rw[j,n];omega,by rw[n];exact h.code,by rw[j,I];exact h.keeps,by rw[j];exact O,by rw[j];exact y,by rw[n,u];exact h.nums,h.e,by rw[j];exact h.nf,by rw[u];exact h.nn,D,Q⟩
theorem CM1.put (h:CM1 E ns P w kb k) {s:bE}{v:Vr}(hs:s.length≤maxLen) (O:s∈ns) (hv:jF v.first) (S:Value) (hS:S=sv s):∃mv w6,w.cell? ⟨kb,7,none⟩=some (.map (some mv))/\(Instr.mapUpdate 132 (.map (some mv)) S (.agg #[.int .i64 v.now,.int .i64 v.was,.int .i64 v.first])).run prog w.drew=.ok () w6/\eK E ns P w6 kb (jU k s v)/\bM P w w6:=by
 obtain ⟨⟨c,U,aa⟩,j,y,n⟩:=h
 obtain ⟨f,hm,Z⟩:=U.hv
 have Q:Gm.Mp prog 9 w.drew c.mv c.nv f:=hm.keep rfl
 obtain ⟨w6,u,D,I⟩:=Q.put sT Tryz.underlying132 (by have:=j.few;unfold maxLen;omega) (Pq hs) (Jo v)
 have J:CM P w.drew kb k c:=U.carry fun b hb _=>⟨hb,rfl⟩
 obtain ⟨g3,X⟩:=J.setV (vars':=(jU k s v).vars) D (fun t=>by
  show ((Gm.put f _ _) _).getD _=Jo (if t=s then v else k.vars t)
  by_cases hts:t=s
  ·rw[hts,Gm.pQ _ (by trivial),if_pos rfl];rfl
  ·rw[Gm.kT _ _ (by intro e;injection e with e;exact hts e),if_neg hts];exact Z t) I (by split<;>omega)
 refine ⟨c.mv,w6,U.cell 7 rfl,by rw[hS];exact u,⟨⟨_,g3⟩,j.ofPot n rfl rfl rfl rfl rfl j.ins j.outs (fun t=>?_) (fun t Y=>?_),fun b hb=>aO5 (y b hb) X.size⟩,(bM.refl P w).drew.trans X fun _ _ h=>h⟩
 ·show jF (if t=s then v else k.vars t).first
  split
  ·exact hv
  ·exact j.vf t
 ·show (if t=s then v else k.vars t).was≠-1
  rw[if_neg (fun e:t=s=>Y (e▸O))];exact j.out t Y
end
def Ro (A P:Nat->Prop) (w:World):Prop:=∀b,A b->b<w.heap.size/\¬P b
section
variable {P A:Nat->Prop}{w w':World}{kb E:Nat}{ns:List bE}{k:Kd}
theorem Ro.up (h:Ro A P w) (hs:w.heap.size≤w'.heap.size):Ro A (Up P w w') w':=fun b hb=>⟨aO5 (h b hb).1 hs,fun hu=>hu.elim (h b hb).2 fun hn=>absurd hn.1 (by have:=(h b hb).1;omega)⟩
theorem Ro.size (h:Ro A P w) (hs:w.heap.size≤w'.heap.size):Ro A P w':=fun b hb=>⟨aO5 (h b hb).1 hs,(h b hb).2⟩
theorem Ro.keep (h:Ro A P w) (hf:bM P w w'):bB A A w w':=hf.keep fun b hb=>(h b hb).2
def Oa (A:Nat->Prop) (kb E:Nat) (ns:List bE) (e:Px.E):Prop:=∀{P:Nat->Prop}{w:World}{k:Kd}{v:Value},jR A w e v->eK E ns P w kb k->Ro A P w->
 Calls prog 206 #[.pointer (some ⟨kb,0,none⟩),v] w (fJ E ns P kb w k (Em.eP e k) (Value.int .i64))
theorem Bn (x y z:Int) (w:World):(Instr.field 183 (.agg #[.int .i64 x,.int .i64 y,.int .i64 z]) 0).run prog w=.ok (.int .i64 x) w:=by kernel_rfl
theorem aN1 (y:E<1000000):Oa A kb E ns .nil:=by
 intro P w k v D h _
 obtain rfl:v=.pointer none:=D
 have c:=dP (n:=0) h y jF.zero
 clear h
 show Calls _ _ _ _ (fJ E ns P kb w k (Em.bS 0 k) (Value.int .i64))
 go_enter Tryz.func206,Tryz.ntmps206
 go_wp2_with (go_at_call 207;refine c.mono ?_;rintro e w1 (⟨rfl,s,j⟩|⟨p,u,rfl,s,j⟩);(· exact ⟨rfl,.inl ⟨rfl,s,j⟩⟩))
 go_ret
 exact .inr ⟨p,u,rfl,s,j⟩
section
variable {b o:Nat}{a:Nd}{l r:Px.E}
theorem Bu (h:a.code=1):Em.eP (.node b o a l r) k=Em.bS a.num k:=by rw[Em.eP,if_pos h]
theorem Bo (h:a.code=2):Em.eP (.node b o a l r) k=some ((k.vars a.name).now,k):=by rw[Em.eP,if_neg (by omega),if_pos h];rfl
theorem Bq (h:a.code=3):Em.eP (.node b o a l r) k=Em.sN a.name k:=by rw[Em.eP,if_neg (by omega),if_neg (by omega),if_pos h]
theorem Bt (h:a.code=4\/a.code=5):Em.eP (.node b o a l r) k=(Em.eP l >>= fun x=>Em.made a.code x 0 0) k:=by rw[Em.eP,if_neg (by omega),if_neg (by omega),if_neg (by omega),if_pos h]
theorem Is (h1:a.code=0\/16<a.code):Em.eP (.node b o a l r) k=Em.bS 0 k:=by rw[Em.eP,if_neg (by omega),if_neg (by omega),if_neg (by omega),if_neg (by omega),if_pos (by omega)]
theorem Bp (h1:6≤a.code) (h2:a.code≤16):Em.eP (.node b o a l r) k=(Em.eP l >>= fun x=>Em.eP r >>= fun y=>Em.made a.code x y 0) k:=by rw[Em.eP,if_neg (by omega),if_neg (by omega),if_neg (by omega),if_neg (by omega),if_neg (by omega)]
end
theorem aL8 (hE:E<1000000) {b o:Nat}{a:Nd}{l r:Px.E}(hn:a.name.length≤maxLen) (hx:jF a.num) (O:Oa A kb E ns l) (X:Oa A kb E ns r):Oa A kb E ns (.node b o a l r):=by
 intro P w k v hv h hR
 obtain ⟨g,lv,rv,rfl,Q,Z,hl,hr⟩:=hv
 obtain ⟨pl,rfl⟩:=hl.pt'
 obtain ⟨pr,rfl⟩:=hr.pt'
 obtain ⟨s,D⟩:∃s:Int,s=(a.code:Int):=⟨_,rfl⟩
 obtain ⟨S,hS⟩:∃S,Value.string S=sv a.name:=⟨_,rfl⟩
 rw[<-D,<-hS] at Z
 have HG:Hid (w.heap[g]?=some (.cells #[.int .i64 s,.int .i64 a.num,.string S,.pointer pl,.pointer pr] 307 (0,0))/\A g):=⟨Z,Q⟩
 have g0:=aF Z 0 (u:=.int .i64 s) rfl
 have HP:Hid (∀b,P b->b<w.heap.size):=h.2.2
 by_cases j:a.code=1
 ·rw[Bu j]
  have g1:=aF Z 1 (u:=.int .i64 a.num) rfl
  have ab:=dP h hE hx
  have t1:(s==1)=true:=by rw[D,j];rfl
  clear h hR Z hl hr D hS O X j Q
  go_enter Tryz.func206,Tryz.ntmps206
  go_wp2_with (go_at_call 207;refine ab.mono ?_;rintro e w1 (⟨rfl,I,j⟩|⟨p,k1,rfl,I,j⟩);(· exact ⟨rfl,.inl ⟨rfl,I,j⟩⟩))
  go_ret
  exact .inr ⟨p,k1,rfl,I,j⟩
 have t1:(s==1)=false:=by rw[beq_eq_false_iff_ne];omega
 by_cases Y:a.code=2
 ·rw[Bo Y]
  have t2:(s==2)=true:=by rw[beq_iff_eq];omega
  have g2:=aF Z 2 (u:=.string S) rfl
  obtain ⟨⟨c,hc⟩,hF,af⟩:=h
  have c7:=hc.cell 7 (u:=.map (some c.mv)) rfl
  have ah:∀m,(Instr.lookup 132 (.map (some c.mv)) (.string S) false).run prog (w.drewN m)=.ok (.agg #[.int .i64 (k.vars a.name).now,.int .i64 (k.vars a.name).was,.int .i64 (k.vars a.name).first]) (w.drewN m):=fun m=>by
   rw[hS]
   exact (CM.lookV (P:=P) (kb:=kb) (hc.carry (w':=w.drewN m) fun b hb _=>⟨hb,rfl⟩) hn)
  have HF:Hid (∀m,fJ E ns P kb w k (some ((k.vars a.name).now,k)) (Value.int .i64) (.returned (.int .i64 (k.vars a.name).now)) (w.drewN m)):=fun m=>fJ.below (w1:=w.drewN m) af ⟨rfl,rfl,rfl,aO4 _,fun _ _=>rfl⟩ (fJ.pure ⟨⟨c,hc.carry (w':=w.drewN m) fun b hb _=>⟨hb,rfl⟩⟩,hF,af⟩ rfl)
  clear hR Z hl hr D hS O X j Y Q hc hF af
  go_enter Tryz.func206,Tryz.ntmps206
  go_wp2_with fail
  have ao:(Instr.lookup 132 (.map (some c.mv)) (.string S) false).run prog w.drew=.ok (.agg #[.int .i64 (k.vars a.name).now,.int .i64 (k.vars a.name).was,.int .i64 (k.vars a.name).first]) w.drew:=ah 1
  clear ah
  have ap:=Bn
  go_region
  all_goals
   go_wp2_with fail
   go_ret
   exact HF.out 1
 have t2:(s==2)=false:=by rw[beq_eq_false_iff_ne];omega
 by_cases J:a.code=3
 ·rw[Bq J]
  have t3:(s==3)=true:=by rw[beq_iff_eq];omega
  have g2:=aF Z 2 (u:=.string S) rfl
  have ad:=Vu hn h hE
  rw[<-hS] at ad
  clear h hR Z hl hr D hS O X j Y J Q
  go_enter Tryz.func206,Tryz.ntmps206
  go_wp2_with (go_at_call 230;refine ad.mono ?_;rintro e w1 (⟨rfl,I,j⟩|⟨p,k1,rfl,I,j⟩);(· exact ⟨rfl,.inl ⟨rfl,I,j⟩⟩))
  go_ret
  exact .inr ⟨p,k1,rfl,I,j⟩
 have t3:(s==3)=false:=by rw[beq_eq_false_iff_ne];omega
 by_cases h4:a.code=4\/a.code=5
 ·rw[Bt h4]
  have HR:Hid (Ro A P w/\(a.code:Int)=s):=⟨hR,D.symm⟩
  have hdr:Below w.heap.size w w.drew:=⟨rfl,rfl,rfl,aO4 _,fun _ _=>rfl⟩
  have aj:jR A w.drew l (.pointer pl):=jR.carry (w:=w) (w':=w.drew) (A':=A) (fun b hb _=>⟨hb,rfl⟩) hl
  have ac:=O aj (h.below hdr) (hR.size (aO4 _))
  have ae:Hid (Below w.heap.size w w.drew):=hdr
  have g3:=aF Z 3 (u:=.pointer pl) rfl
  have am:((s==4)=true)\/((s==4)=false/\(s==5)=true):=by
   rcases h4 with h4|h4
   ·left;rw[beq_iff_eq];omega
   ·right;exact ⟨by rw[beq_eq_false_iff_ne];omega,by rw[beq_iff_eq];omega⟩
  clear h hR Z hl aj hr D hS O X j Y J h4 Q hdr
  rcases am with t4|⟨t4,t5⟩
  all_goals
   go_enter Tryz.func206,Tryz.ntmps206
   go_wp2_with fail
   go_region_law (first
    | (go_simp;go_at_call 206;refine ac.mono ?_;rintro e w1 (⟨rfl,I,j⟩|⟨x,k1,rfl,I,j⟩);(· exact ⟨rfl,.inl ⟨rfl,aH I.out,(bM.of_below ae.out).trans j.out fun _ _ h=>h⟩⟩);have aa:=j.out.2.1.heap (show w.drew.heap[g]?=_ from HG.out.1) (HR.out.1 g HG.out.2).2;have k0:=aF aa 0 (u:=.int .i64 s) rfl;have U:=gU s x 0 0 j.out.1 hE;clear aa)
    | (go_simp;go_at_call 205;refine U.mono ?_;rintro e w2 (⟨rfl,Y,J⟩|⟨p,k2,rfl,Y,J⟩);(· exact ⟨rfl,fJ.below HP.out ae.out (fJ.up (w:=w.drew) HP.out j.out.2.1 j.out.2.2 (by rw[bind_some I.out,HR.out.2]) (.inl ⟨rfl,Y,J⟩))⟩)))
   all_goals
    go_wp2_with fail
    go_ret
    exact fJ.below HP.out ae.out (fJ.up (w:=w.drew) HP.out j.out.2.1 j.out.2.2 (by rw[bind_some I.out,HR.out.2]) (.inr ⟨p,k2,rfl,Y,J⟩))
 have t4:(s==4)=false:=by rw[beq_eq_false_iff_ne];omega
 have t5:(s==5)=false:=by rw[beq_eq_false_iff_ne];omega
 by_cases h5:a.code=0\/16<a.code
 ·rw[Is h5]
  have ab:=dP (n:=0) h hE jF.zero
  have hq:s<6\/(¬s<6/\16<s):=by omega
  clear h hR Z hl hr D hS O X j Y J h4 h5 Q
  rcases hq with hq|⟨hq,an⟩
  all_goals
   go_enter Tryz.func206,Tryz.ntmps206
   go_wp2_with (go_at_call 207;refine ab.mono ?_;rintro e w1 (⟨rfl,I,j⟩|⟨p,k1,rfl,I,j⟩);(· exact ⟨rfl,.inl ⟨rfl,I,j⟩⟩))
   go_ret
   exact .inr ⟨p,k1,rfl,I,j⟩
 ·rw[Bp (by omega) (by omega)]
  have hq:¬s<6:=by omega
  have an:¬16<s:=by omega
  have g3:=aF Z 3 (u:=.pointer pl) rfl
  have ac:=O hl h hR
  have HR:Hid (Ro A P w/\(a.code:Int)=s/\jR A w r (.pointer pr)/\Oa A kb E ns r):=⟨hR,D.symm,hr,X⟩
  clear h hR Z hl hr D hS O X j Y J h4 h5 Q
  go_enter Tryz.func206,Tryz.ntmps206
  go_upto_region 16 with (go_at_call 206;refine ac.mono ?_;rintro e w1 (⟨rfl,I,j⟩|⟨x,k1,rfl,I,j⟩);(· exact ⟨rfl,.inl ⟨rfl,aH I.out,j⟩⟩))
  have aa:=j.out.2.1.heap HG.out.1 (HR.out.1 g HG.out.2).2
  have ag:=HR.out.1.up j.out.2.1.size
  have k4:=aF aa 4 (u:=.pointer pr) rfl
  have ak:=HR.out.2.2.2 (HR.out.2.2.1.carry (HR.out.1.keep j.out.2.1)) j.out.1 ag
  have al:Hid (w1.heap[g]?=some (.cells #[.int .i64 s,.int .i64 a.num,.string S,.pointer pl,.pointer pr] 307 (0,0))/\¬Up P w w1 g):=⟨aa,(ag g HG.out.2).2⟩
  clear aa ag ac g0 g3
  go_upto_region 17 with (go_at_call 206;refine ak.mono ?_;rintro e w2 (⟨rfl,Y,J⟩|⟨y,k2,rfl,Y,J⟩);(· exact ⟨rfl,fJ.up HP.out j.out.2.1 j.out.2.2 (bind_some I.out) (.inl ⟨rfl,aH Y.out,J⟩)⟩))
  have ai:=J.out.2.1.heap al.out.1 al.out.2
  have k0:=aF ai 0 (u:=.int .i64 s) rfl
  have U:=gU s x y 0 J.out.1 hE
  clear ai ak k4
  have e1:Hid ((Em.eP l >>= fun x=>Em.eP r >>= fun y=>Em.made a.code x y 0) k=(Em.eP r >>= fun y=>Em.made a.code x y 0) k1):=bind_some I.out
  have e2:Hid ((Em.eP r >>= fun y=>Em.made a.code x y 0) k1=Em.made s x y 0 k2):=by rw[Hid,bind_some Y.out,HR.out.2.1]
  go_wp2_with (go_at_call 205;refine U.mono ?_;rintro e w3 (⟨rfl,h4,h5⟩|⟨p,k3,rfl,h4,h5⟩);(· exact ⟨rfl,fJ.up HP.out j.out.2.1 j.out.2.2 e1.out (fJ.up j.out.1.2.2 J.out.2.1 J.out.2.2 e2.out (.inl ⟨rfl,h4,h5⟩))⟩))
  go_ret
  exact fJ.up HP.out j.out.2.1 j.out.2.2 e1.out (fJ.up j.out.1.2.2 J.out.2.1 J.out.2.2 e2.out (.inr ⟨p,k3,rfl,h4,h5⟩))
theorem lN (c:E<1000000):∀e:Px.E,sG e->Oa A kb E ns e:=by
 intro e
 induction e with
 | nil=>intro _;exact aN1 c
 | node b o a l r ihl ihr=>intro h;exact aL8 c h.1 h.2.1 (ihl h.2.2.1) (ihr h.2.2.2)
end
section
variable {P A:Nat->Prop}{w w':World}{kb E:Nat}{ns:List bE}{k:Kd}
theorem eK.cellV (h:eK E ns P w kb k):w.cell? ⟨kb,7,none⟩=some (.map (some (kb-2))):=by
 obtain ⟨⟨c,j⟩,_⟩:=h
 rw[j.cell 7 (u:=.map (some c.mv)) rfl,show kb-2=c.mv by have:=j.mvk;omega]
theorem eK.lookV (h:eK E ns P w kb k) {s:bE}(n:s.length≤maxLen):(Instr.lookup 132 (.map (some (kb-2))) (sv s) false).run prog w=.ok (.agg #[.int .i64 (k.vars s).now,.int .i64 (k.vars s).was,.int .i64 (k.vars s).first]) w:=by
 obtain ⟨⟨c,j⟩,_⟩:=h
 rw[show kb-2=c.mv by have:=j.mvk;omega]
 exact j.lookV n
def Cu (k k':Kd):Prop:=∀s,(k'.vars s).now=(k.vars s).now
theorem Cu.trans {a b c:Kd}(h:Cu a b) (h':Cu b c):Cu a c:=fun s=>(h' s).trans (h s)
theorem yR {c a b d p:Int}{k':Kd}(h:Em.made c a b d k=some (p,k')):Cu k k':=fun s=>by rw[(F4 h).2.2.2.2]
theorem rW {n p:Int}{c:Kd}(h:Em.bS n k=some (p,c)):Cu k c:=by
 cases hn:k.nums n with
 | some q=>rw[yN hn] at h;injection h with h;injection h with _ h;subst h;exact fun _=>rfl
 | none=>
  cases hm:Em.made 1 k.net.nums.length 0 0 k with
  | none=>rw[wK hn hm] at h;exact absurd h (by simp)
  | some q=>rw[wJ hn hm] at h;injection h with h;injection h with _ h;subst h;exact fun s=>yR hm s
theorem Vt {s:bE}{p:Int}{c:Kd}(h:Em.sN s k=some (p,c)):Cu k c:=by
 by_cases hw:(k.vars s).was=-1
 ·rw[Hg hw] at h
  injection h with h
  injection h with _ h
  subst h
  intro t
  show (if t=s then (⟨(k.vars s).now,k.net.places,(k.vars s).first⟩:Vr) else k.vars t).now=_
  split
  ·rename_i e;rw[e]
  ·rfl
 ·rw[Hh hw] at h;injection h with h;injection h with _ h;subst h;exact fun _=>rfl
theorem cV {α β:Type}{m:Em.M α}{f:α->Em.M β}{r:β×Kd}(h:(m >>= f) k=some r):∃a k',m k=some (a,k')/\f a k'=some r:=by
 cases hm:m k with
 | none=>rw[aH hm] at h;exact absurd h (by simp)
 | some q=>obtain ⟨a,k'⟩:=q;rw[bind_some hm] at h;exact ⟨a,k',rfl,h⟩
theorem Tp:∀(e:Px.E) {k c:Kd}{p:Int},Em.eP e k=some (p,c)->Cu k c:=by
 intro e
 induction e with
 | nil=>intro k c p h;exact rW h
 | node b o a l r ihl ihr=>
  intro k c p h
  by_cases h1:a.code=1
  ·rw[Bu h1] at h;exact rW h
  by_cases h2:a.code=2
  ·rw[Bo h2] at h;injection h with h;injection h with _ h;subst h;exact fun _=>rfl
  by_cases h3:a.code=3
  ·rw[Bq h3] at h;exact Vt h
  by_cases h4:a.code=4\/a.code=5
  ·rw[Bt h4] at h
   obtain ⟨x,s,n,j⟩:=cV h
   exact (ihl n).trans (yR j)
  by_cases n:a.code=0\/16<a.code
  ·rw[Is n] at h;exact rW h
  ·rw[Bp (by omega) (by omega)] at h
   obtain ⟨x,s,j,I⟩:=cV h
   obtain ⟨y,k2,D,u⟩:=cV I
   exact ((ihl j).trans (ihr D)).trans (yR u)
theorem dT {α:Type}{l:List α}{j:Nat}{a:α}(h:l[j]?=some a):l.drop j=a::l.drop (j+1):=by
 obtain ⟨c,n⟩:=aO7.1 h
 rw[aP4 c,n]
theorem cJ.opn {l:List iY}{v:Value}(h:cJ A w l v) :
    ∃ad g cap,v=.slice ad l.length cap/\l.length≤maxLen/\(0<l.length->ad=some ⟨g,0,none⟩/\A g/\g<w.heap.size)/\∀(i:Nat) (a:iY),l[i]?=some a->∃p,w.cell? ⟨g,i*2,none⟩=some (sv a.name)/\w.cell? ⟨g,i*2+1,none⟩=some (.pointer p)/\jR A w a.e (.pointer p):=by
 obtain ⟨Q,s,D⟩:=h
 obtain ⟨ad,g,cap,O,n,y,J⟩:=wU.open (k:=2) (fun a c ⟨p,hc,_⟩=>by rw[hc];rfl) s D
 refine ⟨ad,g,cap,O,n,y,fun i a I=>?_⟩
 obtain ⟨c,⟨p,rfl,j⟩,hx⟩:=J i a I
 obtain ⟨u,rfl⟩:=j.pt'
 exact ⟨u,hx 0 _ rfl,hx 1 _ rfl,j⟩
theorem Uc {so:Int}{a:iY}{r:List iY}:Em.Cy so (a::r) k=(Em.eP a.e >>= fun x=>Em.put (k.vars a.name).now so x >>= fun _=>Em.Cy so r) k:=rfl
theorem aA8 {so:Int}{l:List iY}{v:Value}(hl:qE ns l) (hv:cJ A w l v) (h:eK E ns P w kb k) (hR:Ro A P w) (hE:E<1000000) :
 Calls prog 208 #[.pointer (some ⟨kb,0,none⟩),.int .i64 so,v] w (fJ E ns P kb w k (Em.vM so l k) (fun _=>.tuple #[])):=by
 obtain ⟨ad,g,cap,rfl,J,hg,ai⟩:=cJ.opn hv
 by_cases hso:so=-1
 ·have t:(so == -1)=true:=by simpa using hso
  have HF:Hid (fJ E ns P kb w k (Em.vM so l k) (fun _=>.tuple #[]) (.returned (.tuple #[])) w):=fJ.pure (a:=()) (val:=fun _=>.tuple #[]) h (by unfold Em.vM;rw[if_pos hso];rfl)
  clear hl hv h hR J hg ai hso
  go_enter Tryz.func208,Tryz.ntmps208
  go_wp2_with fail
  go_end0
  exact HF.out
 ·have t:(so == -1)=false:=by simpa using hso
  have aj:Em.vM so l k=Em.Cy so l k:=by unfold Em.vM;rw[if_neg hso]
  rw[aj]
  obtain ⟨N,hN⟩:=gQx l.length
  rw[<-hN] at J hg ⊢
  have HN:Hid (N=l.length):=hN
  have HG:Hid (0<N->ad=some ⟨g,0,none⟩/\A g/\g<w.heap.size):=hg
  have az:Hid (∀(i:Nat) (a:iY),l[i]?=some a->∃p,w.cell? ⟨g,i*2,none⟩=some (sv a.name)/\w.cell? ⟨g,i*2+1,none⟩=some (.pointer p)/\jR A w a.e (.pointer p)):=ai
  have HL:Hid (qE ns l):=hl
  have HC:Hid (eK E ns P w kb k/\Ro A P w):=⟨h,hR⟩
  have be:(N:Int)≤9223372036854775807:=by unfold maxLen at J;omega
  clear hl hv h hR J hg ai hso aj hN
  go_enter Tryz.func208,Tryz.ntmps208
  go_wp2_with fail
  go_loopg [12] N (fun f i wr=>∃(j:Nat) (kj:Kd),f=N-j/\j≤N/\i=.int .i64 (j:Int)/\Hid (Em.Cy so l k=Em.Cy so (l.drop j) kj/\eK E ns (Up P w wr) wr kb kj/\bM P w wr/\k.net.places≤kj.net.places))
  case atStart=>exact ⟨0,k,by omega,by omega,rfl,rfl,HC.out.1.mono (fun _ h=>.inl h) (fun b hb=>hb.elim (HC.out.1.2.2 b) fun h=>h.2),bM.refl _ _,Int.le_refl _⟩
  case round=>
   obtain ⟨j,kj,rfl,hj,rfl,hr⟩:=hrel
   by_cases hlt:j<N
   ·obtain ⟨a,ha⟩:∃a,l[j]?=some a:=⟨l[j]'(by rw[<-HN.out];exact hlt),by rw[aN4]⟩
    obtain ⟨p,c0,c1,he⟩:=az.out j a ha
    obtain ⟨ap,ar,bc⟩:=HG.out (by omega)
    have aw:=ixS ad g N cap j hlt (fun _=>ap)
    have af:=(HC.out.2 g ar).2
    obtain ⟨Q,y,n,U⟩:=hr.out
    have c0:=n.cell c0 af
    have c1:=n.cell c1 af
    obtain ⟨s,Z,D⟩:=HL.out a (aP1 ha)
    obtain ⟨S,hS⟩:∃S,Value.string S=sv a.name:=⟨_,rfl⟩
    rw[<-hS] at c0
    obtain ⟨X,hX⟩:=gQx (wr.alloc (.cells #[.string S,.pointer p] 297))
    obtain ⟨q,hq⟩:=gQx wr.heap.size
    have ac:Below wr.heap.size wr X:=by rw[hX];exact aL _ _
    have Y:X.heap[q]?=some (.cells #[.string S,.pointer p] 297 (0,0)):=by rw[hX,hq];exact aX wr _
    have I:Below wr.heap.size wr X.drew:=ac.drew
    have O:=y.below I
    have am:Ro A (Up P w wr) wr:=HC.out.2.up n.size
    have ao:Ro A (Up P w wr) X.drew:=am.size ac.size
    have av:jR A X.drew a.e (.pointer p):=(he.carry (HC.out.2.keep n)).carry fun b hb hl=>⟨hb,I.block b hl⟩
    have au:=lN (A:=A) (kb:=kb) (ns:=ns) hE a.e D av O ao
    have ak:¬Up P w wr q:=fun hu=>by have:=y.2.2 q hu;omega
    have z7:=O.cellV
    have an:=O.lookV Z
    obtain ⟨nw,ae⟩:=gQx ((kj.vars a.name).now)
    have al:Hid (nw=(kj.vars a.name).now):=ae
    rw[<-hS,<-ae] at an
    clear ae
    have x0:=aF Y 0 (u:=.string S) rfl
    have x1:=aF Y 1 (u:=.pointer p) rfl
    have bg:X.cell? ⟨kb,7,none⟩=some (.map (some (kb-2))):=z7
    have bf:=Bn
    have c:Hid (Em.Cy so l k=Em.Cy so (l.drop j) kj/\eK E ns (Up P w wr) wr kb kj/\bM P w wr/\k.net.places≤kj.net.places):=hr.out
    have HX:Hid (Below wr.heap.size wr X.drew/\X.heap[q]?=some (.cells #[.string S,.pointer p] 297 (0,0))/\¬Up P w wr q/\l[j]?=some a/\Value.string S=sv a.name/\a.name.length≤maxLen):=⟨I,Y,ak,ha,hS,Z⟩
    clear hr Q y n U ap ar bc af s Z D ac Y I O am ao av ak z7 he ha hS
    go_upto_region 4 with fail
    rw[<-hX,<-hq]
    clear hX hq aw c0 c1
    have e0:Hid (Em.Cy so l k=(Em.eP a.e >>= fun x=>Em.put nw so x >>= fun _=>Em.Cy so (l.drop (j+1))) kj):=by rw[Hid,c.out.1,dT HX.out.2.2.2.1,al.out];exact Uc
    go_region_law
     (first
      | (go_simp;go_at_call 206;refine au.mono ?_;rintro e w1 (⟨rfl,h0,s⟩|⟨x,k1,rfl,h0,s⟩)
         (· exact ⟨rfl,fJ.up HC.out.1.2.2 c.out.2.2.1 c.out.2.2.2 e0.out (fJ.below c.out.2.1.2.2 HX.out.1 (.inl ⟨rfl,aH h0.out,s⟩))⟩)
         have ah:=s.out.2.1.heap (show X.drew.heap[q]?=_ from HX.out.2.1) HX.out.2.2.1
         have m7:=s.out.1.cellV
         have m0:=aF ah 0 (u:=.string S) rfl
         have m1:=aF ah 1 (u:=.pointer p) rfl
         have aa:=s.out.1.lookV HX.out.2.2.2.2.2
         rw[<-HX.out.2.2.2.2.1,Tp a.e h0.out a.name,<-al.out] at aa
         have ab:=Ew.nU nw so x s.out.1
         have e1:Hid ((Em.eP a.e >>= fun x=>Em.put nw so x >>= fun _=>Em.Cy so (l.drop (j+1))) kj=(Em.put nw so x >>= fun _=>Em.Cy so (l.drop (j+1))) k1):=bind_some h0.out
         clear ah)
      | (go_simp;go_at_call 214;refine ab.mono ?_;rintro e w2 (⟨rfl,Z,D⟩|⟨_,k2,rfl,Z,D⟩)
         (· exact ⟨rfl,fJ.up HC.out.1.2.2 c.out.2.2.1 c.out.2.2.2 e0.out (fJ.below c.out.2.1.2.2 HX.out.1 (fJ.up (fun b hb=>aO5 (c.out.2.1.2.2 b hb) HX.out.1.size) s.out.2.1 s.out.2.2 e1.out (.inl ⟨rfl,aH Z.out,D⟩)))⟩)))
    all_goals
     have ay:=HX.out.1.size
     have ba:=s.out.2.1.size
     have ax:=D.out.2.1.size
     have ag:bM P w w2:=c.out.2.2.1.up (((bM.of_below HX.out.1).trans s.out.2.1 fun _ _ h=>h).trans D.out.2.1 fun b hb hu=>hu.elim id fun h=>absurd h.1 (by omega))
     have bb:Hid (Em.Cy so l k=Em.Cy so (l.drop (j+1)) k2/\eK E ns (Up P w w2) w2 kb k2/\bM P w w2/\k.net.places≤k2.net.places):=by
      refine ⟨by rw[e0.out,e1.out,bind_some Z.out],D.out.1.mono (fun b hb=>?_) (iI HC.out.1.2.2 ag.size),ag,by have:=c.out.2.2.2;have:=s.out.2.2;have:=D.out.2.2;omega⟩
      have:=c.out.2.2.1.size
      rcases hb with ((hb|hb)|hb)|hb
      ·exact .inl hb
      ·exact .inr ⟨hb.1,by omega⟩
      ·exact .inr ⟨by omega,by omega⟩
      ·exact .inr ⟨by omega,hb.2⟩
     clear ay ba ax ag h0 s Z D ab au an aa
     go_wp2_with fail
     go_roundg (N-(j+1))
     case measure=>omega
     case rel=>exact ⟨j+1,k2,rfl,by omega,by go_num,bb.out⟩
   ·obtain rfl:j=N:=by omega
    obtain ⟨Q,y,n,U⟩:=hr.out
    have HF:Hid (fJ E ns P kb w k (Em.Cy so l k) (fun _=>.tuple #[]) (.returned (.tuple #[])) wr):=.inr ⟨(),kj,rfl,by rw[Hid,Q,HN.out,aR4];rfl,y,n,U⟩
    clear hr Q y n U
    go_wp2_with fail
    go_end0
    exact HF.out
end
open Px.Em (eQ eR jP Rg)
structure B6 (A:Nat->Prop) (w:World) (gW o:Nat) (y:eQ):Prop where
 d:∃gy oy p q,w.cell? ⟨gW,o,none⟩=some (.pointer (some ⟨gy,oy,none⟩))/\A gy/\jE A w gy oy y.drawn p q
 t:w.cell? ⟨gW,o+1,none⟩=some (.int .i64 y.to)
 l:w.cell? ⟨gW,o+2,none⟩=some (.int .i64 y.left)
def Yr {ρ:Type}(A:Nat->Prop) (w:World) (RM:ρ->Nat->Prop) (v:Value) (l:List ρ):Prop:=
 ∃ad g cap,v=.slice ad l.length cap/\l.length≤maxLen/\(0<l.length->ad=some ⟨g,0,none⟩/\A g)/\∀j r,l[j]?=some r->∃gr,w.cell? ⟨g,j,none⟩=some (.pointer (some ⟨gr,0,none⟩))/\RM r gr
structure vS {σ ρ:Type}(A:Nat->Prop) (w:World) (RM:ρ->Nat->Prop) (gS o:Nat) (s:eR σ ρ) (gd od:Nat):Prop where
 d:w.cell? ⟨gS,o,none⟩=some (.pointer (some ⟨gd,od,none⟩))
 dA:A gd/\A gS
 last:w.cell? ⟨gd,od+2,none⟩=some (.bool s.drawn.last)
 en:∃v,w.cell? ⟨gd,od+3,none⟩=some v/\cJ A w s.drawn.enter v
 du:∃v,w.cell? ⟨gd,od+4,none⟩=some v/\cJ A w s.drawn.during v
 le:∃v,w.cell? ⟨gd,od+5,none⟩=some v/\cJ A w s.drawn.leave v
 re:∃p,w.cell? ⟨gd,od+6,none⟩=some (.pointer p)/\jR A w s.drawn.rests (.pointer p)
 wy:∃ad g cap,w.cell? ⟨gS,o+1,none⟩=some (.slice ad s.ways.length cap)/\s.ways.length≤maxLen/\(0<s.ways.length->ad=some ⟨g,0,none⟩/\A g)/\∀j y,s.ways[j]?=some y->B6 A w g (j*3) y
 iy:∃v,w.cell? ⟨gS,o+2,none⟩=some v/\Yr A w RM v s.inside
 idle:w.cell? ⟨gS,o+3,none⟩=some (.bool s.idle)
 leaves:w.cell? ⟨gS,o+4,none⟩=some (.bool s.leaves)
def nL (A:Nat->Prop) (w:World) (v:Value) (l:List Nat):Prop:=
 ∃ad g cap,v=.slice ad l.length cap/\(0<l.length->ad=some ⟨g,0,none⟩/\A g)/\∀j x:Nat,l[j]?=some x->w.cell? ⟨g,j,none⟩=some (.int .i64 (x:Int))
def Nu {σ ρ:Type}(A:Nat->Prop) (w:World) (RM:ρ->Nat->Prop) (r:jP σ ρ) (g:Nat):Prop:=
 ∃gS ad cap vo,w.heap[g]?=some (.cells #[.slice ad r.states.length cap,vo,.int .i64 r.first,.int .i64 r.there,.bool r.idle,.bool r.leaves] 188 (0,0))/\A g/\(0<r.states.length->ad=some ⟨gS,0,none⟩/\A gS)/\nL A w vo r.order/\∀i s,r.states[i]?=some s->∃gd od,vS A w RM gS (i*5) s gd od
def fH (A:Nat->Prop):(k:Nat)->World->Rg k->Nat->Prop
 | 0=>fun _ _ _=>False
 | k+1=>fun w r g=>Nu A w (fH A k w) r g
section
variable {A A':Nat->Prop}{w w':World}{σ ρ:Type}{RM RM':ρ->Nat->Prop}
theorem cL (k:bB A A' w w') {b o:Nat}{v:Value}(c:A b) (h:w.cell? ⟨b,o,none⟩=some v):w'.cell? ⟨b,o,none⟩=some v:=by
 rw[aY6 (w:=w) (a:=⟨b,o,none⟩) (k b c (aY5 w _ h)).2];exact h
theorem jE.carry (k:bB A A' w w') {gy o:Nat}{y:Wy}{p:Option Addr}{q:Value}(c:A gy) (h:jE A w gy o y p q):jE A' w' gy o y p q:=by
 obtain ⟨O,D,s,Q,u,J,j,I,n⟩:=h
 exact ⟨cL k c O,cL k c D,cL k c s,cL k c Q,cL k c u,cL k c J,cL k c j,I.carry k,n.carry k⟩
theorem B6.carry (k:bB A A' w w') {c o:Nat}{y:eQ}(j:A c) (h:B6 A w c o y):B6 A' w' c o y:=by
 obtain ⟨⟨s,D,p,q,J,n,u⟩,I,O⟩:=h
 exact ⟨⟨s,D,p,q,cL k j J,(k s n (aY5 w _ u.1)).1,jE.carry k n u⟩,cL k j I,cL k j O⟩
theorem Yr.carry (k:bB A A' w w') (O:∀r g,RM r g->RM' r g) {v:Value}{l:List ρ}(h:Yr A w RM v l):Yr A' w' RM' v l:=by
 obtain ⟨U,g,cap,Q,J,u,D⟩:=h
 refine ⟨U,g,cap,Q,J,fun c=>?_,fun j r y=>?_⟩
 ·obtain ⟨n,s,_⟩:=D 0 _ (aN4 c)
  exact ⟨(u c).1,(k g (u c).2 (aY5 w _ s)).1⟩
 ·obtain ⟨n,s,I⟩:=D j r y
  exact ⟨n,cL k (u (by have:=(aO7.1 y).1;omega)).2 s,O r n I⟩
theorem vS.carry (k:bB A A' w w') (hR:∀r g,RM r g->RM' r g) {gS o:Nat}{s:eR σ ρ}{gd od:Nat}(h:vS A w RM gS o s gd od):vS A' w' RM' gS o s gd od:=by
 obtain ⟨d,⟨a1,c⟩,la,⟨ve,e1,U⟩,⟨Z,Q,I⟩,⟨X,l1,l2⟩,⟨p,p1,p2⟩,⟨O,u,Y,w1,w2,w3,w4⟩,⟨vi,e,i2⟩,id,le⟩:=h
 refine ⟨cL k c d,⟨(k gd a1 (aY5 w _ la)).1,(k gS c (aY5 w _ d)).1⟩,cL k a1 la,⟨ve,cL k a1 e1,U.carry k⟩,⟨Z,cL k a1 Q,I.carry k⟩,⟨X,cL k a1 l1,l2.carry k⟩,⟨p,cL k a1 p1,p2.carry k⟩,⟨O,u,Y,cL k c w1,w2,fun n=>?_,fun j y D=>?_⟩,⟨vi,cL k c e,i2.carry k hR⟩,cL k c id,cL k c le⟩
 ·have J:=w4 0 _ (aN4 n)
  exact ⟨(w3 n).1,(k u (w3 n).2 (aY5 w _ J.t)).1⟩
 ·exact B6.carry k (w3 (by have:=(aO7.1 D).1;omega)).2 (w4 j y D)
theorem nL.carry (k:bB A A' w w') {v:Value}{l:List Nat}(h:nL A w v l):nL A' w' v l:=by
 obtain ⟨I,g,cap,y,n,u⟩:=h
 refine ⟨I,g,cap,y,fun c=>?_,fun j x s=>?_⟩
 ·have D:=u 0 _ (aN4 c)
  exact ⟨(n c).1,(k g (n c).2 (aY5 w _ D)).1⟩
 ·exact cL k (n (by have:=(aO7.1 s).1;omega)).2 (u j x s)
theorem Nu.carry (k:bB A A' w w') (Y:∀r g,RM r g->RM' r g) {r:jP σ ρ}{g:Nat}(h:Nu A w RM r g):Nu A' w' RM' r g:=by
 obtain ⟨gS,Z,cap,Q,I,O,u,X,J⟩:=h
 have n:=k g O (aB I)
 refine ⟨gS,Z,cap,Q,by rw[n.2];exact I,n.1,fun c=>?_,X.carry k,fun i s U=>?_⟩
 ·obtain ⟨D,y,j⟩:=J 0 _ (aN4 c)
  exact ⟨(u c).1,(k gS (u c).2 (aY5 w _ j.d)).1⟩
 ·obtain ⟨D,y,j⟩:=J i s U
  exact ⟨D,y,j.carry k Y⟩
theorem fH.carry:∀(n:Nat) {A A':Nat->Prop}{w w':World},bB A A' w w'->∀(r:Rg n) (g:Nat),fH A n w r g->fH A' n w' r g
 | 0,_,_,_,_,_,_,_,h=>h
 | n+1,_,_,_,_,k,_,_,h=>Nu.carry k (fH.carry n k) h
end
structure xK (ns:List bE) (n:Nat) (y:eQ):Prop where
 c:sG y.drawn.cond
 s:qE ns y.drawn.sets
 t:0≤y.to/\y.to<n
 m:y.drawn.times≤1000000
structure B9 {σ ρ:Type}(ns:List bE) (n:Nat) (sub:ρ->Prop) (s:eR σ ρ):Prop where
 en:qE ns s.drawn.enter
 du:qE ns s.drawn.during
 le:qE ns s.drawn.leave
 re:sG s.drawn.rests
 wy:∀y∈s.ways,xK ns n y
 wl:s.ways.length≤1000000
 il:s.inside.length≤1000000
 sub:∀r∈s.inside,sub r
structure Od {σ ρ:Type}(ns:List bE) (sub:ρ->Prop) (r:jP σ ρ):Prop where
 n:r.states.length≤1000000
 f:0≤r.first/\r.first<r.states.length
 o:∀i∈r.order,i<r.states.length
 ol:r.order.length≤1000000
 st:∀s∈r.states,B9 ns r.states.length sub s
def eS (ns:List bE):(k:Nat)->Rg k->Prop
 | 0=>fun _=>True
 | k+1=>fun r=>Od ns (eS ns k) r
def At (E:Nat) (ns:List bE) (P:Nat->Prop) (kb:Nat) (w:World) (k:Kd) (wr:World) (kj:Kd):Prop:=eK E ns (Up P w wr) wr kb kj/\bM P w wr/\k.net.places≤kj.net.places
section
variable {P A:Nat->Prop}{w wr w2:World}{kb E:Nat}{ns:List bE}{k kj k2:Kd}
theorem At.start (h:eK E ns P w kb k):At E ns P kb w k w k:=⟨h.mono (fun _ h=>.inl h) (fun b hb=>hb.elim (h.2.2 b) fun h=>h.2),bM.refl _ _,Int.le_refl _⟩
theorem At.step (hP:∀b,P b->b<w.heap.size) (h:At E ns P kb w k wr kj) (h2:At E ns (Up P w wr) kb wr kj w2 k2):At E ns P kb w k w2 k2:=
 ⟨h2.1.up hP h.2.1.size h2.2.1.size,h.2.1.up h2.2.1,aY2 h.2.2 h2.2.2⟩
theorem At.below (j:∀b,P b->b<w.heap.size) (h:At E ns P kb w k wr kj) (hb:Below wr.heap.size wr w2):At E ns P kb w k w2 kj:=by
 have c:bM P w w2:=h.2.1.trans (bM.of_below (P:=fun _=>False) hb) fun _ _ h=>h.elim
 exact ⟨(h.1.below hb).mono (Up.size hb.size) (iI j c.size),c,h.2.2⟩
theorem At.ran {α:Type}{o o2:Option (α×Kd)}{val:α->Value}{e:Ending}(hP:∀b,P b->b<w.heap.size) (h:At E ns P kb w k wr kj) (ho:o=o2) (h2:fJ E ns (Up P w wr) kb wr kj o2 val e w2):fJ E ns P kb w k o val e w2:=fJ.up hP h.2.1 h.2.2 ho h2
theorem At.ends {α:Type}{o:Option (α×Kd)}{val:α->Value}{a:α}(h:At E ns P kb w k wr kj) (ho:o=some (a,kj)):fJ E ns P kb w k o val (.returned (val a)) wr:=.inr ⟨a,kj,rfl,ho,h⟩
theorem At.ro (h:At E ns P kb w k wr kj) (hR:Ro A P w):Ro A (Up P w wr) wr:=hR.up h.2.1.size
theorem At.keep (h:At E ns P kb w k wr kj) (hR:Ro A P w):bB A A w wr:=hR.keep h.2.1
theorem Se (ad:Option Addr) (g n cap j:Nat) (s:j<n) (c:0<n->ad=some ⟨g,0,none⟩) (w:World):(Instr.indexAt 186 (.slice ad n cap) (.int .i64 (j:Int))).run prog w=.ok (.pointer (some ⟨g,j*5,none⟩)) w:=by
 obtain rfl:=c (by omega)
 rw[aY8 _ _ _ _ _ _ _ (by kernel_rfl),if_pos ⟨by omega,by omega⟩]
 have e:(sizeOf (prog.elem 186)).run prog w=.ok 5 w:=by kernel_rfl
 rw[e]
 simp[Result.andThen,Addr.add]
 try (intro h;exact h.symm)
theorem aK9 (ad:Option Addr) (g n cap j:Nat) (s:j<n) (c:0<n->ad=some ⟨g,0,none⟩) (w:World):(Instr.indexAt 233 (.slice ad n cap) (.int .i64 (j:Int))).run prog w=.ok (.pointer (some ⟨g,j*3,none⟩)) w:=by
 obtain rfl:=c (by omega)
 rw[aY8 _ _ _ _ _ _ _ (by kernel_rfl),if_pos ⟨by omega,by omega⟩]
 have e:(sizeOf (prog.elem 233)).run prog w=.ok 3 w:=by kernel_rfl
 rw[e]
 simp[Result.andThen,Addr.add]
 try (intro h;exact h.symm)
theorem Xp (ad:Option Addr) (g n cap j:Nat) (s:j<n) (c:0<n->ad=some ⟨g,0,none⟩) (w:World):(Instr.indexAt 234 (.slice ad n cap) (.int .i64 (j:Int))).run prog w=.ok (.pointer (some ⟨g,j,none⟩)) w:=by
 obtain rfl:=c (by omega)
 rw[aY8 _ _ _ _ _ _ _ (by kernel_rfl),if_pos ⟨by omega,by omega⟩]
 have e:(sizeOf (prog.elem 234)).run prog w=.ok 1 w:=by kernel_rfl
 rw[e]
 simp[Result.andThen,Addr.add]
 try (intro h;exact h.symm)
theorem Eo {σ ρ:Type}{p:Int}{s:eR σ ρ}{l:List (eR σ ρ)}{i:Nat}{o:Int}(h:s.drawn.last=true):Em.oY p (s::l) i o k=(Em.is p i >>= fun x=>Em.uZ o x >>= fun o'=>Em.oY p l (i+1) o') k:=by rw[Em.oY,if_pos h]
theorem Lc {σ ρ:Type}{p:Int}{s:eR σ ρ}{l:List (eR σ ρ)}{i:Nat}{o:Int}(h:s.drawn.last=false):Em.oY p (s::l) i o k=Em.oY p l (i+1) o k:=by rw[Em.oY,if_neg (by rw[h];simp)]
theorem aH1 {σ ρ:Type}{RM:ρ->Nat->Prop}{r:jP σ ρ}{g:Nat}(Q:Nu A w RM r g) (hn:r.states.length≤1000000) (h:eK E ns P w kb k) (hR:Ro A P w) (hE:E<1000000) :
 Calls prog 244 #[.pointer (some ⟨kb,0,none⟩),.pointer (some ⟨g,0,none⟩)] w (fJ E ns P kb w k (Em.over r k) (Value.int .i64)):=by
 obtain ⟨gS,ad,cap,vo,hg,U,hS,_,Y⟩:=Q
 obtain ⟨N,hN⟩:=gQx r.states.length
 rw[<-hN] at hg hS hn
 have g0:=aF hg 0 (u:=.slice ad N cap) rfl
 have HN:Hid _:=hN
 have HG:Hid (_/\¬P g):=⟨hg,(hR g U).2⟩
 have HS:Hid (0<N->ad=some ⟨gS,0,none⟩/\A gS):=hS
 have ab:Hid _:=Y
 have HC:Hid (_/\_):=⟨h,hR⟩
 have ae:(N:Int)≤1000000:=by omega
 clear h hR hg U hS Y hN
 go_enter Tryz.func244,Tryz.ntmps244
 go_wp2_with fail
 clear g0
 go_loopg [5,12] N (fun f ov i wr=>∃(j:Nat) (o:Int) (kj:Kd),f=N-j/\j≤N/\ov=.int .i64 o/\i=.int .i64 (j:Int)/\Hid (Em.over r k=Em.oY r.there (r.states.drop j) j o kj/\At E ns P kb w k wr kj))
 case atStart=>exact ⟨0,-1,k,by omega,by omega,rfl,rfl,rfl,At.start HC.out.1⟩
 case round=>
  obtain ⟨j,o,kj,rfl,hj,rfl,rfl,Q⟩:=hrel
  by_cases hlt:j<N
  ·obtain ⟨s,hs⟩:∃s,r.states[j]?=some s:=⟨r.states[j]'(by rw[<-HN.out];exact hlt),by rw[aN4]⟩
   obtain ⟨n,c⟩:=Q.out
   obtain ⟨gd,od,y⟩:=ab.out j s hs
   have kp:=c.keep HC.out.2
   have ac:=Se ad gS N cap j hlt (fun hp=>(HS.out hp).1)
   have J:=c.2.1.heap HG.out.1 HG.out.2
   have g0:=aF J 0 (u:=.slice ad N cap) rfl
   have g3:=aF J 3 (u:=.int .i64 r.there) rfl
   have d0:=cL kp y.dA.2 y.d
   have d1:=cL kp y.dA.1 y.last
   rw[dT hs] at n
   have O:Hid (_/\_):=⟨n,c⟩
   cases hl:s.drawn.last with
   | true=>
    rw[hl] at d1
    have X:=aE4 r.there j (by omega) c.1 hE
    have HP:Hid _:=HC.out.1.2.2
    have a0:Hid (At E ns P kb w k wr kj):=c
    have e0:Hid (Em.over r k=(Em.is r.there j >>= fun x=>Em.uZ o x >>= fun o'=>Em.oY r.there (r.states.drop (j+1)) (j+1) o') kj):=by rw[Hid,O.out.1,Eo hl]
    clear Q n c y kp J hl hs O
    go_wp2_with (first
     | (go_at_call 163;refine X.mono ?_;rintro e w1 (⟨rfl,D,I⟩|⟨x1,k1,rfl,D,I⟩);(· exact ⟨rfl,At.ran HP.out a0.out e0.out (.inl ⟨rfl,aH D.out,I⟩)⟩);have a1:Hid (At E ns P kb w k w1 k1):=a0.out.step HP.out I.out;have e1:Hid _:=e0.out.trans (bind_some D.out);clear D I X;have Z:=pS o x1 a1.out.1 hE)
     | (go_at_call 211;refine Z.mono ?_;rintro e w2 (⟨rfl,D,I⟩|⟨x2,k2,rfl,D,I⟩);(· exact ⟨rfl,At.ran HP.out a1.out e1.out (.inl ⟨rfl,aH D.out,I⟩)⟩);have a2:Hid (At E ns P kb w k w2 k2):=a1.out.step HP.out I.out;have e2:Hid _:=e1.out.trans (bind_some D.out);clear D I Z))
    go_roundg (N-(j+1))
    case measure=>omega
    case rel=>exact ⟨j+1,x2,k2,rfl,by omega,rfl,by go_num,e2.out,a2.out⟩
   | false=>
    rw[hl] at d1
    have aa:Hid (Em.over r k=Em.oY r.there (r.states.drop (j+1)) (j+1) o kj/\_):=⟨by rw[O.out.1,Lc hl],c⟩
    clear Q n c y kp J hl hs
    go_wp2_with fail
    go_roundg (N-(j+1))
    case measure=>omega
    case rel=>exact ⟨j+1,o,kj,rfl,by omega,rfl,by go_num,aa.out⟩
  ·obtain rfl:j=N:=by omega
   obtain ⟨n,c⟩:=Q.out
   have HF:Hid (fJ E ns P kb w k (Em.over r k) (Value.int .i64) (.returned (.int .i64 o)) wr):=At.ends c (by rw[n,HN.out,aR4];rfl)
   clear Q n c
   go_wp2_with fail
   go_ret
   exact HF.out
end
end Ew
end
end Go.Proofs.YthieaobjdpfcoaaGreatDoor
