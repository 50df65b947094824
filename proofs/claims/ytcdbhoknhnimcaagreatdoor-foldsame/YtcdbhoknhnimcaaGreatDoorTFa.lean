import Derived.Test.YtcdbhoknhnimcaaGreatDoorTEa
import Derived.Deep.RegionLaw
import Derived.Deep.AppendLies
import Derived.Deep.DeepCutAuto
import Derived.Test.YtcdbhoknhnimcaaGreatDoorTGm
set_option maxRecDepth 100000
set_option maxHeartbeats 2000000
namespace Go.Proofs.YtcdbhoknhnimcaaGreatDoor
section
open Go.RowKit Px
namespace Ew
open Px.Em (Kd Vr)
open Nx (Nt Sp)
theorem Y1:(Tryz.prog.info? 2).map (fun i=>(i.zero,i.size,i.bytes))=some (some (.int .i64 0),1,8):=by kernel_rfl
theorem Pi:(Tryz.prog.info? 3).map (fun i=>(i.zero,i.size,i.bytes))=some (some (.int .i64 0),1,8):=by kernel_rfl
theorem Dj:(Tryz.prog.info? 39).map (fun i=>(i.zero,i.size,i.bytes))=some (some (.agg #[.int .i64 0,.int .i64 0,.int .i64 0,.int .i64 0,.int .i64 0]),5,40):=by kernel_rfl
def aQ (k:Kd) (x:Int):Kd:={ k with net:={ k.net with first:=k.net.first++[x],places:=k.net.places+1 } }
theorem U9 (k:Kd) (x:Int):Em.place x k=some (k.net.places,aQ k x):=rfl
def bD (k:Kd) (p:Int):Kd:={ k with net:={ k.net with keeps:=k.net.keeps++[p] } }
theorem Fq (k:Kd) (x:Int):Em.kept x k=some (k.net.places,bD (aQ k x) k.net.places):=rfl
def added (k:Kd) (s:Sp):Kd:={ k with net:={ k.net with code:=k.net.code++[s] } }
section
variable {P:Nat->Prop}{w:World}{kb E:Nat}{ns:List bB}{k:Kd}
theorem qY.place {x:Int}(h:qY E ns k) (hE:E<1000000) (hx:eF x):qY (E+1) ns (aQ k x):=by
 have hl:(aQ k x).net.first.length=k.net.first.length+1:=by simp[aQ]
 have h2:=h.pot
 refine ⟨?_,?_,h.code,?_,?_,?_,h.nums,by omega,fun y hy=>?_,h.nn,h.vf,h.out⟩
 ·show k.net.places+1=_
  rw[hl,h.len];simp
 ·rw[hl];show _+xG ns k≤k.net.code.length+_;omega
 ·rw[hl];have:=h.keeps;show k.net.keeps.length≤_;omega
 ·rw[hl];have:=h.ins;show k.net.ins.length≤_;omega
 ·rw[hl];have:=h.outs;show k.net.outs.length≤_;omega
 ·rcases List.mem_append.1 hy with h'|h'
  ·exact h.nf y h'
  ·rw[List.mem_singleton.1 h'];exact hx
theorem qY.few (h:qY E ns k):k.net.first.length≤1004000:=by have:=h.pot;have:=h.code;have:=h.e;omega
theorem qY.kept {x p:Int}(h:qY E ns k) (hE:E<1000000) (hx:eF x):qY (E+1) ns (bD (aQ k x) p):=by
 have h1:=h.place hE hx
 refine ⟨h1.len,h1.pot,h1.code,?_,h1.ins,h1.outs,h1.nums,h1.e,h1.nf,h1.nn,h1.vf,h1.out⟩
 have:=h.keeps
 simp only[bD,aQ,List.length_append,List.length_cons,List.length_nil]
 omega
theorem qY.add {E':Nat}{s:Sp}(h:qY E' ns k) (hE:E'≤E+1) (hE2:E≤1000000) (hc:k.net.code.length<4000):qY E ns (added k s):=by
 have hl:(added k s).net.code.length=k.net.code.length+1:=by simp[added]
 have h1:=h.pot
 have h2:=h.nums
 refine ⟨h.len,?_,by omega,h.keeps,h.ins,h.outs,?_,hE2,h.nf,h.nn,h.vf,h.out⟩
 ·rw[hl];show k.net.first.length+xG ns k≤_;omega
 ·rw[hl];show k.net.nums.length≤_;omega
theorem mO {x:Int}(h:eG E ns P w kb k) (hE:E<1000000) (hx:eF x) :
    Calls Tryz.prog 145 #[.pointer (some ⟨kb,0,none⟩),.int .i64 x] w fun e w'=>e=.returned (.int .i64 k.net.places)/\Hid (eG (E+1) ns (Up P w w') w' kb (aQ k x)/\bH P w w'):=by
 obtain ⟨⟨c,hc⟩,hF,hlt⟩:=h
 obtain ⟨i0,hi,hz0,hz1,hz2⟩:=info_parts Y1
 have hr:w.ownsRow 0 2 1 (c.v 1) k.net.first.length (k.net.first.map (Value.int .i64)):=hc.row 1 (by omega) (by omega)
 obtain ⟨ao,cap,e1⟩:=aJ hr
 have c1:=hc.cell 1 (u:=c.v 1) rfl
 have HC:Hid (_/\_/\_):=⟨hc,hF,e1⟩
 rw[e1] at c1 hr
 have hl:=hF.few
 have hp:0≤k.net.places/\k.net.places≤1004000:=by have:=hF.len;omega
 obtain ⟨p,hpp⟩:∃p,p=k.net.places:=⟨_,rfl⟩
 have HP:Hid _:=hpp
 rw[<-hpp] at hp
 have hkk:=hc.hk
 rw[<-hpp] at hkk
 rw[<-hpp]
 obtain ⟨n,hn⟩:∃n,n=k.net.first.length:=⟨_,rfl⟩
 have HN:Hid _:=hn
 rw[<-hn] at c1 hr hl
 obtain ⟨hp0,hp1⟩:=hp
 have lkb:=aB hkk
 have HK:Hid (w.heap[kb]?=some (.cells (c.cells p).toArray 168 (0,0))/\∀g,(Value.slice ao n cap).ownBlock=some g->g≠kb):=⟨hkk,fun g hg e=>by
  have h1:=hc.pr 1 g (by omega) (by omega) (by rw[e1,<-hn];exact hg)
  rw[e,hc.p0.2] at h1;exact absurd h1.2 (by omega)⟩
 have hs1:IntKind.i64.wrap (p+1)=p+1:=by rw[IntKind.wrap_i64];omega
 have hs2:IntKind.i64.wrap (p+1-1)=p:=by rw[IntKind.wrap_i64];omega
 clear hc hF e1 hpp hn hkk
 go_enter Tryz.func145,Tryz.ntmps145
 go_wp2_with (at_builtin;refine wpList_append_own_at _ rfl (.tmp 10) (.tmp 12) 22 rfl 0 2 i0 _ 1 8 Tryz.underlying22 hi hz0 hz1 hz2 rfl (by decide) _ _ _ rfl (hr.alloc _) ⟨w.heap.size,0,none⟩ 1 1 [.int .i64 x] rfl rfl (dX _ _ _) (by intro u hu;simp at hu;subst hu;rfl) (by unfold maxLen;omega) (by omega) (by simp) ?_;intro v5 w5 hown5 hgrow _ hat;obtain ⟨a5,m5,e5⟩:=aJ hown5;subst e5;have hk5:w5.heap[kb]?=some (.cells (c.cells p).toArray 168 (0,0)):=by { rw[hgrow.block kb (by simp;omega) (fun e=>(HK.out.2 kb e.symm) rfl),dW HK.out.1] };have d0:=aA hk5 0 (u:=.int .i64 p) rfl;have d1:=aA hk5 1 (u:=c.v 1) rfl;have f0:=aE hk5 0;have f1:=aE hk5 1)
 go_ret
 refine ⟨rfl,?_⟩
 obtain ⟨hC,hF,e1⟩:=HC.out
 rw[<-HN.out] at e1
 obtain ⟨g1,g2⟩:=hC.grow (i:=1) (by omega) (by omega) (w0:=w.alloc (.cells #[.int .i64 x] 2)) (n5:={ k.net with first:=k.net.first++[x] }) (aC _ _) (new:=[.int .i64 x]) (by show World.ownsRow _ _ _ _ _ (k.net.first.length+1) _;rw[<-HN.out];exact hown5) (by rw[e1];exact hgrow) (by rw[e1];exact hat) rfl (fun j hj=>by unfold qH oV;split<;>first|exact absurd rfl hj|exact ⟨rfl,rfl⟩) ⟨by simp[qH],by simp[oV]⟩
 obtain ⟨g3,g4⟩:=g1.setP (p+1)
 have e:aQ k x={ ({ k with net:={ k.net with first:=k.net.first++[x] } }:Kd) with net:={ ({ k with net:={ k.net with first:=k.net.first++[x] } }:Kd).net with places:=p+1 } }:=by rw[HP.out];rfl
 rw[<-e] at g3
 exact ⟨⟨⟨_,g3.mono (Up.size g4.size)⟩,hF.place hE hx,fL hlt (g2.trans g4 fun b hb hq=>hq.elim id fun h=>absurd h.1 (by omega)).size⟩,g2.trans g4 fun b hb hq=>hq.elim id fun h=>absurd h.1 (by omega)⟩
theorem xO {x:Int}(h:eG E ns P w kb k) (hE:E<1000000) (hx:eF x) :
    Calls Tryz.prog 146 #[.pointer (some ⟨kb,0,none⟩),.int .i64 x] w fun e w'=>e=.returned (.int .i64 k.net.places)/\Hid (eG (E+1) ns (Up P w w') w' kb (bD (aQ k x) k.net.places)/\bH P w w'):=by
 have hcall:=mO h hE hx
 have HH:Hid (qY E ns k/\∀b,P b->b<w.heap.size):=h.2
 obtain ⟨i0,hi,hz0,hz1,hz2⟩:=info_parts Pi
 obtain ⟨p,hp⟩:∃p,p=k.net.places:=⟨_,rfl⟩
 rw[<-hp] at hcall ⊢
 clear h hp
 go_enter Tryz.func146,Tryz.ntmps146
 go_upto_region 2 with (go_at_call 145;refine hcall.mono ?_;rintro e w1 ⟨rfl,h1⟩)
 obtain ⟨⟨⟨c,hc⟩,hF,hlt⟩,hfr⟩:=h1.out
 have hr:w1.ownsRow 0 3 1 (c.v 4) (aQ k x).net.keeps.length ((aQ k x).net.keeps.map (Value.int .i64)):=hc.row 4 (by omega) (by omega)
 obtain ⟨ao,cap,e1⟩:=aJ hr
 have c1:=hc.cell 4 (u:=c.v 4) rfl
 have HC:Hid (_/\_/\_):=⟨hc,e1,hfr⟩
 rw[e1] at c1 hr
 have hl:=hF.few
 have hl2:=hF.keeps
 obtain ⟨n,hn⟩:∃n,n=(aQ k x).net.keeps.length:=⟨_,rfl⟩
 have HN:Hid _:=hn
 rw[<-hn] at c1 hr hl2
 have hkk:=hc.hk
 have lkb:=aB hkk
 have HK:Hid (w1.heap[kb]?=some (.cells (c.cells (aQ k x).net.places).toArray 168 (0,0))/\∀g,(Value.slice ao n cap).ownBlock=some g->g≠kb):=⟨hkk,fun g hg e=>by
  have h1:=hc.pr 4 g (by omega) (by omega) (by rw[e1,<-hn];exact hg)
  rw[e,hc.p0.2] at h1;exact absurd h1.2 (by omega)⟩
 have hn6:n≤1004000:=by omega
 clear hc hF e1 hn hkk hl hl2 hfr h1 hcall
 go_wp2_with (at_builtin;refine wpList_append_own_at _ rfl (.tmp 14) (.tmp 16) 23 rfl 0 3 i0 _ 1 8 Tryz.underlying23 hi hz0 hz1 hz2 rfl (by decide) _ _ _ rfl (hr.alloc _) ⟨w1.heap.size,0,none⟩ 1 1 [.int .i64 p] rfl rfl (dX _ _ _) (by intro u hu;simp at hu;subst hu;rfl) (by unfold maxLen;omega) (by omega) (by simp) ?_;intro v5 w5 hown5 hgrow _ hat;obtain ⟨a5,m5,e5⟩:=aJ hown5;subst e5;have hk5:w5.heap[kb]?=some (.cells (c.cells (aQ k x).net.places).toArray 168 (0,0)):=by { rw[hgrow.block kb (by simp;omega) (fun e=>(HK.out.2 kb e.symm) rfl),dW HK.out.1] };have d1:=aA hk5 4 (u:=c.v 4) rfl;have f1:=aE hk5 4)
 go_ret
 refine ⟨rfl,?_⟩
 obtain ⟨hC,e1,hfr⟩:=HC.out
 rw[<-HN.out] at e1
 obtain ⟨g1,g2⟩:=hC.grow (i:=4) (by omega) (by omega) (w0:=w1.alloc (.cells #[.int .i64 p] 3)) (n5:=(bD (aQ k x) p).net) (aC _ _) (new:=[.int .i64 p]) (by show World.ownsRow _ _ _ _ _ ((aQ k x).net.keeps.length+1) _;rw[<-HN.out];exact hown5) (by rw[e1];exact hgrow) (by rw[e1];exact hat) rfl (fun j hj=>by unfold qH oV;split<;>first|exact absurd rfl hj|exact ⟨rfl,rfl⟩) ⟨by simp[qH,bD],by simp[oV,bD]⟩
 exact ⟨⟨⟨_,g1.mono (Up.up hfr.size g2.size)⟩,HH.out.1.kept hE hx,fL HH.out.2 (hfr.up g2).size⟩,hfr.up g2⟩
theorem J7 (s:Sp) (h:eG E ns P w kb k) (hc:4000≤k.net.code.length) :
    Calls Tryz.prog 150 #[.pointer (some ⟨kb,0,none⟩),.agg #[.int .i64 s.code,.int .i64 s.dst,.int .i64 s.a,.int .i64 s.b,.int .i64 s.c]] w fun e w'=>e=Sv/\Hid (bH P w w'):=by
 obtain ⟨⟨c,hC⟩,hF,hlt⟩:=h
 have hr:w.ownsRow 0 39 5 (c.v 6) k.net.code.length (k.net.code.flatMap rA):=hC.row 6 (by omega) (by omega)
 obtain ⟨ao,cap,e1⟩:=aJ hr
 have c1:=hC.cell 6 (u:=c.v 6) rfl
 rw[e1] at c1
 have lkb:=aB hC.hk
 have hp:∀(v:Value) (w:World),(Instr.panic (.iface 94 v)).run Tryz.prog w=.halt (.panic (.iface 94 v)) w:=fun _ _=>rfl
 have hn6:=hF.code
 obtain ⟨n,hn⟩:∃n,n=k.net.code.length:=⟨_,rfl⟩
 rw[<-hn] at c1 hc hn6
 obtain rfl:n=4000:=by omega
 clear hC hF hr e1 hn hc hn6
 go_enter Tryz.func150,Tryz.ntmps150
 go_wp2
 exact ⟨rfl,rfl,(bH.refl _ _).alloc _⟩
theorem Eo {E':Nat}(s:Sp) (h:eG E' ns P w kb k) (hE:E'≤E+1) (hE2:E≤1000000) (hc:k.net.code.length<4000) :
    Calls Tryz.prog 150 #[.pointer (some ⟨kb,0,none⟩),.agg #[.int .i64 s.code,.int .i64 s.dst,.int .i64 s.a,.int .i64 s.b,.int .i64 s.c]] w fun e w'=>e=.returned (.tuple #[])/\Hid (eG E ns (Up P w w') w' kb (added k s)/\bH P w w'):=by
 obtain ⟨i0,hi,hz0,hz1,hz2⟩:=info_parts Dj
 obtain ⟨W,hW⟩:∃W,W=w.alloc (.cells #[.int .i64 s.code,.int .i64 s.dst,.int .i64 s.a,.int .i64 s.b,.int .i64 s.c] 39):=⟨_,rfl⟩
 have hbw:Below w.heap.size w W:=by rw[hW];exact aC _ _
 have hkq:W.heap[w.heap.size]?=some (.cells #[.int .i64 s.code,.int .i64 s.dst,.int .i64 s.a,.int .i64 s.b,.int .i64 s.c] 39 (0,0)):=by rw[hW];exact bE w _
 obtain ⟨q,hq⟩:∃q,q=w.heap.size:=⟨_,rfl⟩
 rw[<-hq] at hkq
 obtain ⟨⟨c,hC⟩,hF,hlt⟩:=h
 have hC:=hC.below hbw
 have hr:W.ownsRow 0 39 5 (c.v 6) k.net.code.length (k.net.code.flatMap rA):=hC.row 6 (by omega) (by omega)
 obtain ⟨ao,cap,e1⟩:=aJ hr
 have c1:=hC.cell 6 (u:=c.v 6) rfl
 have HC:Hid (CM P W kb k c/\qY E' ns k/\c.v 6=.slice ao k.net.code.length cap/\Below w.heap.size w W/\∀b,P b->b<w.heap.size):=⟨hC,hF,e1,hbw,hlt⟩
 rw[e1] at c1 hr
 obtain ⟨n,hn⟩:∃n,n=k.net.code.length:=⟨_,rfl⟩
 have HN:Hid _:=hn
 rw[<-hn] at c1 hr
 have hn4:(n:Int)<4000:=by omega
 have hkk:=hC.hk
 have lkb:=aB hkk
 have HK:Hid (W.heap[kb]?=some (.cells (c.cells k.net.places).toArray 168 (0,0))/\∀g,(Value.slice ao n cap).ownBlock=some g->g≠kb):=⟨hkk,fun g hg e=>by
  have h1:=hC.pr 6 g (by omega) (by omega) (by rw[e1,<-hn];exact hg)
  rw[e,hC.p0.2] at h1;exact absurd h1.2 (by omega)⟩
 have q0:=aA hkq 0 (u:=.int .i64 s.code) rfl
 have q1:=aA hkq 1 (u:=.int .i64 s.dst) rfl
 have q2:=aA hkq 2 (u:=.int .i64 s.a) rfl
 have q3:=aA hkq 3 (u:=.int .i64 s.b) rfl
 have q4:=aA hkq 4 (u:=.int .i64 s.c) rfl
 have HL:Hid _:=hc
 clear hC hF e1 hn hkk hbw hkq hc hlt
 go_enter Tryz.func150,Tryz.ntmps150
 go_upto_region 1 with fail
 rw[<-hW,<-hq]
 have hwq:=hq.symm
 clear hW hq
 go_wp2_with fail
 obtain ⟨V,hV⟩:∃V,V=W.alloc (.cells #[.int .i64 s.code,.int .i64 s.dst,.int .i64 s.a,.int .i64 s.b,.int .i64 s.c] 39):=⟨_,rfl⟩
 go_region_law (first
  | (refine step_append_lies _ (by rfl) (.tmp 17) (.tmp 19) 24 (by rfl) 0 39 i0 _ 5 40 Tryz.underlying24 hi hz0 hz1 hz2 rfl (by decide) (Value.slice ao n cap) n _ (by rfl) (hr.alloc _) ⟨W.heap.size,0,none⟩ 1 1 (rA s) (by rfl) (by rfl) (dX _ (rA s) _) (by intro u hu;simp[rA] at hu;rcases hu with rfl|rfl|rfl|rfl|rfl<;>rfl) (by omega) (by unfold maxLen;omega) (by omega) (by simp) (W.heap.size+1) (by simp) ?_
     intro g5 cap5 w5 hown5 hgrow hat hlt5
     have hk5:w5.heap[kb]?=some (.cells (c.cells k.net.places).toArray 168 (0,0)):=by { rw[hgrow.block kb (by simp;omega) (fun e=>(HK.out.2 kb e.symm) rfl)];exact dW HK.out.1 }
     have d1:=aA hk5 6 (u:=c.v 6) rfl
     have f1:=aE hk5 6))
 all_goals
  go_wp2_with fail
  go_end0
  obtain ⟨hC,hF,e1,hbw,hlt⟩:=HC.out
  rw[<-HN.out] at e1
  obtain ⟨g1,g2⟩:=hC.grow (i:=6) (by omega) (by omega) (n5:=(added k s).net) (w0:=(W.alloc (.cells #[.int .i64 s.code,.int .i64 s.dst,.int .i64 s.a,.int .i64 s.b,.int .i64 s.c] 39)).drew) ((aC _ _).drew) (new:=rA s) (by show World.ownsRow _ _ _ _ _ (k.net.code.length+1) _;rw[<-HN.out];exact hown5) (by rw[e1];exact hgrow) (by rw[e1];rcases hat with h|h;exact .inl h.symm;exact .inr (by rw[h];simp[Value.ownBlock])) rfl (fun j hj=>by unfold qH oV;split<;>first|exact absurd rfl hj|exact ⟨rfl,rfl⟩) ⟨by simp[qH,added],by simp[oV,added]⟩
  have hfr:bH P w _:=(bH.of_below hbw).trans g2 (fun b hb hq=>hq)
  exact ⟨rfl,⟨⟨_,g1.mono fun b hb=>hb.elim .inl fun h=>.inr ⟨by have:=hbw.size;omega,h.2⟩⟩,hF.add hE hE2 HL.out,fL hlt hfr.size⟩,hfr⟩
theorem zR {c a b d:Int}(h:4000≤k.net.code.length):Em.made c a b d k=none:=by
 unfold Em.made
 rw[bind_some (U9 k 0)]
 exact aF (if_pos h)
theorem zQ {c a b d:Int}(h:k.net.code.length<4000):Em.made c a b d k=some (k.net.places,added (aQ k 0) ⟨c,k.net.places,a,b,d⟩):=by
 unfold Em.made
 rw[bind_some (U9 k 0)]
 exact bind_some (if_neg (show ¬4000≤(aQ k 0).net.code.length from by show ¬4000≤k.net.code.length;omega))
theorem gP (c a b d:Int) (h:eG E ns P w kb k) (hE:E<1000000) :
    Calls Tryz.prog 233 #[.pointer (some ⟨kb,0,none⟩),.agg #[.int .i64 c,.int .i64 0,.int .i64 a,.int .i64 b,.int .i64 d]] w (eY E ns P kb w k (Em.made c a b d k) (Value.int .i64)):=by
 obtain ⟨W,hW⟩:∃W,W=w.alloc (.cells #[.int .i64 c,.int .i64 0,.int .i64 a,.int .i64 b,.int .i64 d] 39):=⟨_,rfl⟩
 have hbw:Below w.heap.size w W:=by rw[hW];exact aC _ _
 have hkq:W.heap[w.heap.size]?=some (.cells #[.int .i64 c,.int .i64 0,.int .i64 a,.int .i64 b,.int .i64 d] 39 (0,0)):=by rw[hW];exact bE w _
 have hcall:=mO (x:=0) (h.below hbw) hE eF.zero
 obtain ⟨q,hq⟩:∃q,q=w.heap.size:=⟨_,rfl⟩
 rw[<-hq] at hkq
 have HH:Hid (_/\_/\_/\_/\¬P q):=⟨hbw,h.2.2,hq.symm,hkq,fun hp=>by have:=h.2.2 q hp;omega⟩
 obtain ⟨p,hp⟩:∃p,p=k.net.places:=⟨_,rfl⟩
 have HP:Hid _:=hp
 rw[<-hp] at hcall
 clear h hbw hkq hp
 by_cases hcl:4000≤k.net.code.length
 all_goals
  go_enter Tryz.func233,Tryz.ntmps233
  go_upto_region 1 with fail
  rw[<-hW,<-hq]
  clear hW hq
  go_upto_region 2 with (go_at_call 145;refine hcall.mono ?_;rintro e w1 ⟨rfl,h1⟩;have hk1:=h1.out.2.heap HH.out.2.2.2.1 HH.out.2.2.2.2;have d1:=aA hk1 1 (u:=.int .i64 0) rfl;have f1:=aE hk1 1)
  obtain ⟨X,hX⟩:∃X,X=w1.setCell ⟨q,1,none⟩ (.int .i64 p):=⟨_,rfl⟩
  have hkx:X.heap[q]?=some (.cells #[.int .i64 c,.int .i64 p,.int .i64 a,.int .i64 b,.int .i64 d] 39 (0,0)):=by rw[hX];exact bQ (l:=[.int .i64 c,.int .i64 0,.int .i64 a,.int .i64 b,.int .i64 d]) hk1 1 _
  have hUq:¬Up P W w1 q:=fun hu=>hu.elim HH.out.2.2.2.2 fun h=>by have:=aB HH.out.2.2.2.1;omega
  have hkeep:aX (Up P W w1) (Up P W w1) w1 X:=fun b hb hl=>⟨hb,by rw[hX];exact Below.heap_setCell _ _ _ _ (fun e=>hUq (by have e:b=q:=e;rw[<-e];exact hb))⟩
  have hCX:eG (E+1) ns (Up P W w1) X kb (aQ k 0):=⟨h1.out.1.1.imp fun _ h=>h.carry hkeep,h1.out.1.2.1,fun b hb=>by rw[hX];simp[World.setCell];exact h1.out.1.2.2 b hb⟩
  rw[<-hX]
  have HX:Hid (bH P w X/\_/\_/\X.heap.size=w1.heap.size/\_):=⟨by rw[hX];exact ((bH.of_below HH.out.1).trans h1.out.2 fun _ _ h=>h).setCell (.inr (by rw[HH.out.2.2.1];exact Nat.le_refl _)) _,hkx,hUq,by rw[hX];simp[World.setCell],h1.out.2.size⟩
  have x0:=aA hkx 0 (u:=.int .i64 c) rfl
  have x1:=aA hkx 1 (u:=.int .i64 p) rfl
  have x2:=aA hkx 2 (u:=.int .i64 a) rfl
  have x3:=aA hkx 3 (u:=.int .i64 b) rfl
  have x4:=aA hkx 4 (u:=.int .i64 d) rfl
  clear hX hk1 d1 f1 hkx hUq hkeep h1 hcall
 ·have hadd:=J7 (E:=E+1) ⟨c,p,a,b,d⟩ hCX hcl
  clear hCX
  go_wp2_with (go_at_call 150;refine hadd.mono ?_;rintro e w2 ⟨rfl,h2⟩)
  exact ⟨rfl,.inl ⟨rfl,zR hcl,HX.out.1.trans h2.out fun b hb hq=>hq.elim id fun h=>absurd h.1 (by have:=HH.out.1.size;omega)⟩⟩
 ·have hadd:=Eo (E:=E) (E':=E+1) ⟨c,p,a,b,d⟩ hCX (Nat.le_refl _) (by omega) (by have:=hcl;show k.net.code.length<4000;omega)
  clear hCX
  go_wp2_with (go_at_call 150;refine hadd.mono ?_;rintro e w2 ⟨rfl,h2⟩;have hk2:=h2.out.2.heap HX.out.2.1 HX.out.2.2.1;have y1:=aA hk2 1 (u:=.int .i64 p) rfl)
  go_ret
  have hs:=HH.out.1.size
  have hs2:=h2.out.2.size
  have hfr:bH P w w2:=HX.out.1.trans h2.out.2 fun b hb hq=>hq.elim id fun h=>absurd h.1 (by omega)
  refine .inr ⟨p,added (aQ k 0) ⟨c,p,a,b,d⟩,rfl,?_,h2.out.1.mono (fun b hb=>?_) (fL HH.out.2.1 hfr.size),hfr,?_⟩
  ·rw[HP.out];exact zQ (by have:=hcl;omega)
  ·rcases hb with (hb|hb)|hb
   ·exact .inl hb
   ·exact .inr ⟨by omega,by have:=HX.out.2.2.2.1;omega⟩
   ·exact .inr ⟨by have:=HX.out.2.2.2;omega,hb.2⟩
  ·show k.net.places≤k.net.places+1
   omega
end
end Ew
end
section
open Go.RowKit Px
namespace Ew
open Px.Em (Kd Vr)
open Nx (Nt Sp)
section
variable {P:Nat->Prop}{w:World}{kb E:Nat}{ns:List bB}{k:Kd}
theorem eY.up {α:Type}{w1 w2:World}{k1:Kd}{o o2:Option (α×Kd)}{val:α->Value}{e:Ending}(hP:∀b,P b->b<w.heap.size) (h1:bH P w w1) (hp:k.net.places≤k1.net.places) (ho:o=o2) (h2:eY E ns (Up P w w1) kb w1 k1 o2 val e w2):eY E ns P kb w k o val e w2:=by
 subst ho
 rcases h2 with ⟨rfl,h3,h4⟩|⟨a,k',rfl,h3,h4⟩
 ·exact .inl ⟨rfl,h3,h1.up h4.out⟩
 ·exact .inr ⟨a,k',rfl,h3,h4.out.1.up hP h1.size h4.out.2.1.size,h1.up h4.out.2.1,by have:=h4.out.2.2;omega⟩
theorem eY.below {α:Type}{w1 w2:World}{o:Option (α×Kd)}{val:α->Value}{e:Ending}(hP:∀b,P b->b<w.heap.size) (hb:Below w.heap.size w w1) (h2:eY E ns P kb w1 k o val e w2):eY E ns P kb w k o val e w2:=by
 rcases h2 with ⟨rfl,h3,h4⟩|⟨a,k',rfl,h3,h4⟩
 ·exact .inl ⟨rfl,h3,(bH.of_below hb).trans h4.out fun _ _ h=>h⟩
 ·have hs:=hb.size
  have hf:bH P w w2:=(bH.of_below hb).trans h4.out.2.1 fun _ _ h=>h
  exact .inr ⟨a,k',rfl,h3,h4.out.1.mono (fun b hu=>hu.elim .inl fun h=>.inr ⟨by omega,h.2⟩) (fL hP hf.size),hf,h4.out.2.2⟩
theorem eY.pure {α:Type}{o:Option (α×Kd)}{val:α->Value}{a:α}(h:eG E ns P w kb k) (ho:o=some (a,k)):eY E ns P kb w k o val (.returned (val a)) w:=
 .inr ⟨a,k,rfl,ho,h.mono (fun _ h=>.inl h) (fun b hb=>hb.elim (h.2.2 b) fun h=>h.2),bH.refl _ _,Int.le_refl _⟩
def numbered (k:Kd) (n p:Int):Kd:={ k with net:={ k.net with nums:=k.net.nums++[n] },nums:=fun m=>if m=n then some p else k.nums m }
theorem xE {n p:Int}(h:k.nums n=some p):Em.bM n k=some (p,k):=by
 show (match k.nums n with|some p=>(Pure.pure p:Em.M Int)|none=>_) k=_
 rw[h];rfl
theorem uS {n:Int}(h:k.nums n=none) (h2:Em.made 1 k.net.nums.length 0 0 k=none):Em.bM n k=none:=by
 show (match k.nums n with|some p=>(Pure.pure p:Em.M Int)|none=>_) k=_
 rw[h]
 exact aF h2
theorem uR {n p:Int}{k1:Kd}(h:k.nums n=none) (h2:Em.made 1 k.net.nums.length 0 0 k=some (p,k1)):Em.bM n k=some (p,numbered k1 n p):=by
 show (match k.nums n with|some p=>(Pure.pure p:Em.M Int)|none=>_) k=_
 rw[h]
 exact bind_some h2
theorem zT {c a b d p:Int}{k1:Kd}(h:Em.made c a b d k=some (p,k1)):k1.net.nums=k.net.nums/\k1.net.code.length=k.net.code.length+1/\k1.net.nums.length=k.net.nums.length/\k1.nums=k.nums/\k1.vars=k.vars:=by
 by_cases hc:4000≤k.net.code.length
 ·rw[zR hc] at h;exact absurd h (by simp)
 ·rw[zQ (by omega)] at h
  injection h with h
  injection h with _ h
  subst h
  exact ⟨rfl,by simp[added,aQ],rfl,rfl,rfl⟩
theorem qY.numbered {n p:Int}(h:qY E ns k) (hx:eF n) (hl:k.net.nums.length<k.net.code.length):qY E ns (numbered k n p):=
 ⟨h.len,h.pot,h.code,h.keeps,h.ins,h.outs,by simp[Ew.numbered];omega,h.e,h.nf,fun y hy=>by
  rcases List.mem_append.1 hy with h'|h'
  ·exact h.nn y h'
  ·rw[List.mem_singleton.1 h'];exact hx,h.vf,h.out⟩
theorem tV:Maps.Keyed Tryz.prog 2:=Maps.int_keyed Tryz.underlying2
theorem dB {n:Int}(h:eG E ns P w kb k) (hE:E<1000000) (hn:eF n) :
    Calls Tryz.prog 235 #[.pointer (some ⟨kb,0,none⟩),.int .i64 n] w (eY E ns P kb w k (Em.bM n k) (Value.int .i64)):=by
 obtain ⟨⟨c,hc⟩,hF,hlt⟩:=h
 have c8:=hc.cell 8 (u:=.map (some c.mn)) rfl
 obtain ⟨f,hm,hf⟩:=hc.hn
 have hlk:=hm.look_ok tV Tryz.underlying59 (Q9 w) (Maps.keyOf_int_mk Tryz.underlying2 hn.wf)
 rw[hf n] at hlk
 cases hkn:k.nums n with
 | some p=>
  rw[hkn] at hlk
  have hlk':(Instr.lookup 59 (.map (some c.mn)) (.int .i64 n) true).run Tryz.prog w=.ok (.tuple #[.int .i64 p,.bool true]) w:=hlk
  have HC:Hid (eG E ns P w kb k/\_):=⟨⟨⟨c,hc⟩,hF,hlt⟩,hkn⟩
  clear hc hF hlt hm hf hlk hkn
  go_enter Tryz.func235,Tryz.ntmps235
  go_wp2_with fail
  go_ret
  exact eY.pure HC.out.1 (xE HC.out.2)
 | none=>
  rw[hkn] at hlk
  have hlk':(Instr.lookup 59 (.map (some c.mn)) (.int .i64 n) true).run Tryz.prog w=.ok (.tuple #[.int .i64 0,.bool false]) w:=hlk
  have hr:w.ownsRow 0 2 1 (c.v 5) k.net.nums.length (k.net.nums.map (Value.int .i64)):=hc.row 5 (by omega) (by omega)
  obtain ⟨ao,cap,e1⟩:=aJ hr
  have c5:=hc.cell 5 (u:=c.v 5) rfl
  rw[e1] at c5
  have hmade:=gP 1 (k.net.nums.length:Int) 0 0 ⟨⟨c,hc⟩,hF,hlt⟩ hE
  have HK:Hid (k.nums n=none/\qY E ns k/\∀b,P b->b<w.heap.size):=⟨hkn,hF,hlt⟩
  obtain ⟨i0,hi,hz0,hz1,hz2⟩:=info_parts Y1
  clear hc hF hlt hm hf hlk hkn hr e1
  go_enter Tryz.func235,Tryz.ntmps235
  go_upto_region 4 with (go_at_call 233;refine hmade.mono ?_;rintro e w1 (⟨rfl,h0,h1⟩|⟨p,k1,rfl,h0,h1⟩);(· exact ⟨rfl,.inl ⟨rfl,uS HK.out.1 h0.out,h1⟩⟩))
  clear c8 c5 hlk' hmade
  obtain ⟨⟨⟨c1,hc1⟩,hF1,hlt1⟩,hfr1,hpl1⟩:=h1.out
  obtain ⟨m1,m2,m3,m4,m5⟩:=zT h0.out
  have hr:w1.ownsRow 0 2 1 (c1.v 5) k1.net.nums.length (k1.net.nums.map (Value.int .i64)):=hc1.row 5 (by omega) (by omega)
  obtain ⟨ao1,cap1,e1⟩:=aJ hr
  have c5:=hc1.cell 5 (u:=c1.v 5) rfl
  rw[e1] at c5 hr
  obtain ⟨m,hm⟩:∃m,m=k1.net.nums.length:=⟨_,rfl⟩
  have hm4:m≤4000:=by have:=hF1.nums;have:=hF1.code;omega
  rw[<-hm] at c5 hr
  have lkb:=aB hc1.hk
  have HK1:Hid (w1.heap[kb]?=some (.cells (c1.cells k1.net.places).toArray 168 (0,0))/\∀g,(Value.slice ao1 m cap1).ownBlock=some g->g≠kb):=⟨hc1.hk,fun g hg e=>by
   have h1:=hc1.pr 5 g (by omega) (by omega) (by rw[e1,<-hm];exact hg)
   rw[e,hc1.p0.2] at h1;exact absurd h1.2 (by omega)⟩
  have HC1:Hid (_/\c1.v 5=.slice ao1 m cap1/\_/\_/\_/\_/\k1.net.nums.length<k1.net.code.length/\k1.nums n=none):=⟨hc1,by rw[hm];exact e1,hF1,hfr1,hpl1,hm,by have:=HK.out.2.1.nums;omega,by rw[m4];exact HK.out.1⟩
  clear hc1 hF1 hlt1 hfr1 hpl1 e1 hm m1 m2 m3 m4 m5
  go_upto_region 5 with (at_builtin;refine wpList_append_own_at _ rfl (.tmp 32) (.tmp 34) 22 rfl 0 2 i0 _ 1 8 Tryz.underlying22 hi hz0 hz1 hz2 rfl (by decide) _ _ _ rfl (hr.alloc _) ⟨w1.heap.size,0,none⟩ 1 1 [.int .i64 n] rfl rfl (dX _ _ _) (by intro u hu;simp at hu;subst hu;rfl) (by unfold maxLen;omega) (by omega) (by simp) ?_;intro v5 w5 hown5 hgrow _ hat;obtain ⟨a5,m5,e5⟩:=aJ hown5;subst e5;have hk5:w5.heap[kb]?=some (.cells (c1.cells k1.net.places).toArray 168 (0,0)):=by { rw[hgrow.block kb (by simp;omega) (fun e=>(HK1.out.2 kb e.symm) rfl),dW HK1.out.1] };have d1:=aA hk5 5 (u:=c1.v 5) rfl;have f1:=aE hk5 5)
  obtain ⟨hC1,e1,hF1,hfr1,hpl1,hm,hlc,hn1⟩:=HC1.out
  obtain ⟨g1,g2⟩:=hC1.grow (i:=5) (by omega) (by omega) (w0:=w1.alloc (.cells #[.int .i64 n] 2)) (n5:={ k1.net with nums:=k1.net.nums++[n] }) (aC _ _) (new:=[.int .i64 n]) (by show World.ownsRow _ _ _ _ _ (k1.net.nums.length+1) _;rw[<-hm];exact hown5) (by rw[e1];exact hgrow) (by rw[e1];exact hat) rfl (fun j hj=>by unfold qH oV;split<;>first|exact absurd rfl hj|exact ⟨rfl,rfl⟩) ⟨by simp[qH],by simp[oV]⟩
  obtain ⟨X,hX⟩:∃X,X=w5.setCell ⟨kb,5,none⟩ (.slice a5 (m+1) m5):=⟨_,rfl⟩
  rw[<-hX] at g1 g2 ⊢
  obtain ⟨f,hmX,hfX⟩:=g1.hn
  have x8:=g1.cell 8 (u:=.map (some c1.mn)) rfl
  have hnn:c1.nn≤k1.net.nums.length:=hC1.nn
  obtain ⟨w6,hrun,hm6,hg6⟩:=hmX.put tV Tryz.underlying59 (by show c1.nn<maxLen;unfold maxLen;omega) (Maps.keyOf_int_mk Tryz.underlying2 hn.wf) (.int .i64 p)
  have hrun':(Instr.mapUpdate 59 (.map (some c1.mn)) (.int .i64 n) (.int .i64 p)).run Tryz.prog X=.ok () w6:=hrun
  have hfn:f (.int .i64 n)=none:=by rw[hfX n];show (k1.nums n).map _=_;rw[hn1];rfl
  rw[hfn] at hm6
  obtain ⟨g3,g4⟩:=g1.setN (nums':=fun m=>if m=n then some p else k1.nums m) hm6 (fun x=>by
   by_cases hxn:x=n
   ·rw[hxn,Gm.lQ _ (by trivial),if_pos rfl];rfl
   ·rw[Gm.kB _ _ (by intro e;injection e with _ e;exact hxn e),if_neg hxn];exact hfX x) hg6 (by simp;exact Nat.le_trans hnn (Nat.le_refl _))
  have hU:∀b,Up (Up P w w1) w1 X b->Up P w w6 b:=fun b hb=>Up.size g4.size b (Up.up hfr1.size g2.size b hb)
  have hfr6:bH P w w6:=(hfr1.up g2).trans g4 fun b hb hq=>by
   rcases hq with (hq|hq)|hq
   ·exact hq
   ·omega
   ·have:=hfr1.size;omega
  have HF:Hid (eY E ns P kb w k (Em.bM n k) (Value.int .i64) (.returned (.int .i64 p)) w6):=.inr ⟨p,numbered k1 n p,rfl,uR HK.out.1 h0.out,⟨⟨_,g3.mono hU⟩,hF1.numbered hn hlc,fL HK.out.2.2 hfr6.size⟩,hfr6,hpl1⟩
  clear hX g1 g2 hmX hfX hrun hm6 hg6 hfn g3 g4 hU hfr6 hC1 e1 hF1 hfr1 hpl1 hm hlc hn1 hnn hown5 hgrow hat hk5 d1 f1 c5 hr h0 h1
  go_wp2_with fail
  go_ret
  exact HF.out
end
end Ew
end
section
open Go.RowKit Px
namespace Fw
open Nx (Nt Sp)
open Ew (bH Up rA tV)
theorem tU:Maps.Keyed Tryz.prog 3:=Maps.int_keyed Tryz.underlying3
theorem Lr (w:World):(zeroValue 2).run Tryz.prog w=.ok (.int .i64 0) w:=by kernel_rfl
theorem aB5 (w:World):(zeroValue 3).run Tryz.prog w=.ok (.int .i64 0) w:=by kernel_rfl
structure Fv where
 bk:Nat
 bw:Nat
 nk:Nat
 nw:Nat
 vN:Value
 vC:Value
def Ln (nums:List Int) (v:Int):Option Int:=if v∈nums then some (nums.idxOf v:Nat) else none
structure FM (P:Nat->Prop) (w:World) (fb m:Nat) (f:Nx.Fd) (c:Fv):Prop where
 hk:w.heap[fb]?=some (.cells #[.map (some c.bk),.map (some c.bw),c.vN,c.vC] 61 (0,0))
 rn:w.ownsRow 0 2 1 c.vN f.nums.length (f.nums.map (Value.int .i64))
 rc:w.ownsRow 0 39 5 c.vC f.code.length (f.code.flatMap rA)
 kn:∃g,Gm.Mp Tryz.prog 3 w c.bk c.nk g/\∀p:Int,g (.int .i64 p)=(f.kn p).map (Value.int .i64)
 wh:∃g,Gm.Mp Tryz.prog 2 w c.bw c.nw g/\∀v:Int,g (.int .i64 v)=(Ln f.nums v).map (Value.int .i64)
 pb:P fb/\P c.bk/\P c.bw
 pn:∀g,c.vN.ownBlock=some g->P g/\g≠fb/\g≠c.bk/\g≠c.bw/\c.vC.ownBlock≠some g
 pc:∀g,c.vC.ownBlock=some g->P g/\g≠fb/\g≠c.bk/\g≠c.bw
 ne:fb≠c.bk/\fb≠c.bw/\c.bk≠c.bw
 few:c.nk≤m/\c.nw≤m/\f.nums.length≤m/\f.code.length≤m/\m≤100000
def pP (P:Nat->Prop) (w:World) (fb m:Nat) (f:Nx.Fd):Prop:=(∃c,FM P w fb m f c)/\∀b,P b->b<w.heap.size
section
variable {P Q:Nat->Prop}{w w':World}{fb m:Nat}{f:Nx.Fd}{c:Fv}
theorem FM.carry (h:FM P w fb m f c) (hK:aX P Q w w'):FM Q w' fb m f c:=by
 obtain ⟨gk,k1,k2⟩:=h.kn
 obtain ⟨gw,w1,w2⟩:=h.wh
 have b0:=hK fb h.pb.1 (aB h.hk)
 have ek:=hK c.bk h.pb.2.1 k1.lt
 have ew:=hK c.bw h.pb.2.2 w1.lt
 refine ⟨by rw[b0.2];exact h.hk,dK h.rn (fun g hg=>(h.pn g hg).1) hK,dK h.rc (fun g hg=>(h.pc g hg).1) hK,⟨gk,k1.keep ek.2,k2⟩,⟨gw,w1.keep ew.2,w2⟩,⟨b0.1,ek.1,ew.1⟩,fun g hg=>?_,fun g hg=>?_,h.ne,h.few⟩
 ·have q:=h.pn g hg
  exact ⟨(hK g q.1 (h.rn.lt g hg).2).1,q.2⟩
 ·have q:=h.pc g hg
  exact ⟨(hK g q.1 (h.rc.lt g hg).2).1,q.2⟩
theorem pP.below (h:pP P w fb m f) (hb:Below w.heap.size w w'):pP P w' fb m f:=⟨h.1.imp fun _ h=>h.carry fun b hp hl=>⟨hp,hb.block b hl⟩,fun b hp=>Nat.lt_of_lt_of_le (h.2 b hp) hb.size⟩
theorem pP.mono (h:pP P w fb m f) (hQ:∀b,P b->Q b) (hl:∀b,Q b->b<w.heap.size):pP Q w fb m f:=⟨h.1.imp fun _ h=>h.carry fun b hp _=>⟨hQ b hp,rfl⟩,hl⟩
theorem pP.more {m':Nat}(h:pP P w fb m f) (hm:m≤m') (hm':m'≤100000):pP P w fb m' f:=by
 obtain ⟨⟨c,h1⟩,h2⟩:=h
 exact ⟨⟨c,{ h1 with few:=by have:=h1.few;omega }⟩,h2⟩
theorem FM.cells (h:FM P w fb m f c):w.cell? ⟨fb,0,none⟩=some (.map (some c.bk))/\w.cell? ⟨fb,1,none⟩=some (.map (some c.bw))/\w.cell? ⟨fb,2,none⟩=some c.vN/\w.cell? ⟨fb,3,none⟩=some c.vC/\∀j,w.frozen? ⟨fb,j,none⟩=false:=
 ⟨aA h.hk 0 rfl,aA h.hk 1 rfl,aA h.hk 2 rfl,aA h.hk 3 rfl,fun j=>aE h.hk j⟩
theorem FM.look (h:FM P w fb m f c) {p:Int}(hp:eF p):(Instr.lookup 58 (.map (some c.bk)) (.int .i64 p) true).run Tryz.prog w=.ok (.tuple #[.int .i64 ((f.kn p).getD 0),.bool (f.kn p).isSome]) w:=by
 obtain ⟨g,h1,h2⟩:=h.kn
 rw[h1.look_ok tU Tryz.underlying58 (Lr w) (Maps.keyOf_int_mk Tryz.underlying3 hp.wf),h2 p]
 cases f.kn p<;>rfl
theorem FM.look1 (h:FM P w fb m f c) {p:Int}(hp:eF p):(Instr.lookup 58 (.map (some c.bk)) (.int .i64 p) false).run Tryz.prog w=.ok (.int .i64 ((f.kn p).getD 0)) w:=by
 obtain ⟨g,h1,h2⟩:=h.kn
 rw[h1.look tU Tryz.underlying58 (Lr w) (Maps.keyOf_int_mk Tryz.underlying3 hp.wf),h2 p]
 cases f.kn p<;>rfl
theorem FM.lookW (h:FM P w fb m f c) {v:Int}(hv:eF v):(Instr.lookup 59 (.map (some c.bw)) (.int .i64 v) true).run Tryz.prog w=.ok (.tuple #[.int .i64 ((Ln f.nums v).getD 0),.bool (Ln f.nums v).isSome]) w:=by
 obtain ⟨g,h1,h2⟩:=h.wh
 rw[h1.look_ok tV Tryz.underlying59 (aB5 w) (Maps.keyOf_int_mk Tryz.underlying2 hv.wf),h2 v]
 cases Ln f.nums v<;>rfl
theorem FM.setK (h:FM P w fb m f c) {g:Lit->Option Value}{n':Nat}{kn':Int->Option Int}(hm:Gm.Mp Tryz.prog 3 w' c.bk n' g) (hg:∀p:Int,g (.int .i64 p)=(kn' p).map (Value.int .i64)) (hgr:w.grownBy w' (some c.bk)) (hn:n'≤m):FM P w' fb m { f with kn:=kn' } { c with nk:=n' }/\bH P w w':=by
 obtain ⟨gw,w1,w2⟩:=h.wh
 have kp:∀b,b<w.heap.size->b≠c.bk->w'.heap[b]?=w.heap[b]?:=fun b hb hne=>hgr.block b hb fun e=>hne (by injection e)
 refine ⟨⟨by rw[kp fb (aB h.hk) h.ne.1];exact h.hk,?_,?_,⟨g,hm,hg⟩,⟨gw,w1.keep (kp _ w1.lt h.ne.2.2.symm),w2⟩,h.pb,h.pn,h.pc,h.ne,⟨hn,h.few.2⟩⟩,(bH.refl _ _).grown hgr fun b hb=>.inl (by injection hb with hb;rw[<-hb];exact h.pb.2.1)⟩
 ·exact dK (A:=fun b=>c.vN.ownBlock=some b) (A':=fun _=>True) h.rn (fun _ h=>h) fun b hb hl=>⟨trivial,kp b hl (h.pn b hb).2.2.1⟩
 ·exact dK (A:=fun b=>c.vC.ownBlock=some b) (A':=fun _=>True) h.rc (fun _ h=>h) fun b hb hl=>⟨trivial,kp b hl (h.pc b hb).2.2.1⟩
theorem FM.addNum {v:Int}{w6 w0 w5:World}{g':Lit->Option Value}{n':Nat}{v5:Value}(h:FM P w fb m f c) (hg6:w.grownBy w6 (some c.bw)) (hm6:Gm.Mp Tryz.prog 2 w6 c.bw n' g') (hg':∀u:Int,g' (.int .i64 u)=(Ln (f.nums++[v]) u).map (Value.int .i64)) (hn':n'≤m+1) (hw0:Below w6.heap.size w6 w0)
    (hown:w5.ownsRow 0 2 1 v5 (f.nums.length+1) (f.nums.map (Value.int .i64)++[.int .i64 v])) (hgr:w0.grownBy w5 c.vN.ownBlock) (hat:v5.ownBlock=c.vN.ownBlock\/v5.ownBlock=some w0.heap.size) (hm:m<100000) :
    FM (Up P w (w5.setCell ⟨fb,2,none⟩ v5)) (w5.setCell ⟨fb,2,none⟩ v5) fb (m+1) { f with nums:=f.nums++[v] } { c with nw:=n',vN:=v5 }/\bH P w (w5.setCell ⟨fb,2,none⟩ v5):=by
 obtain ⟨gk,k1,k2⟩:=h.kn
 have s6:=hg6.size
 have s0:=hw0.size
 have s5:=hgr.size
 have lfb:=aB h.hk
 have kp5:∀b,b<w6.heap.size->c.vN.ownBlock≠some b->w5.heap[b]?=w6.heap[b]?:=fun b hb hn=>by rw[hgr.block b (by omega) (fun e=>hn e.symm),hw0.block b hb]
 have kp:∀b,b<w.heap.size->b≠fb->b≠c.bw->c.vN.ownBlock≠some b->(w5.setCell ⟨fb,2,none⟩ v5).heap[b]?=w.heap[b]?:=fun b hb h1 h2 h3=>by
  rw[Below.heap_setCell _ _ _ _ h1,kp5 b (by omega) h3,hg6.block b hb (fun e=>h2 (by injection e))]
 have nfb:c.vN.ownBlock≠some fb:=fun e=>(h.pn fb e).2.1 rfl
 have nbw:c.vN.ownBlock≠some c.bw:=fun e=>(h.pn _ e).2.2.2.1 rfl
 have nbk:c.vN.ownBlock≠some c.bk:=fun e=>(h.pn _ e).2.2.1 rfl
 have o5:∀g,v5.ownBlock=some g->Up P w (w5.setCell ⟨fb,2,none⟩ v5) g/\g≠fb/\g≠c.bk/\g≠c.bw/\c.vC.ownBlock≠some g:=fun g hg=>by
  have hl:=(hown.lt g hg).2
  rcases hat with e|e
  ·have q:=h.pn g (e.symm.trans hg)
   exact ⟨.inl q.1,q.2⟩
  ·rw[hg] at e;injection e with e
   have l1:=k1.lt
   obtain ⟨gw,w1,_⟩:=h.wh
   have l2:=w1.lt
   exact ⟨.inr ⟨by omega,by simp[World.setCell];exact hl⟩,by omega,by omega,by omega,fun hc=>by have:=(h.rc.lt g hc).2;omega⟩
 have hk5:w5.heap[fb]?=some (.cells #[.map (some c.bk),.map (some c.bw),c.vN,c.vC] 61 (0,0)):=by rw[kp5 fb (by omega) nfb,hg6.block fb lfb (fun e=>h.ne.2.1 (by injection e)),h.hk]
 refine ⟨⟨bQ (l:=[.map (some c.bk),.map (some c.bw),c.vN,c.vC]) hk5 2 v5,?_,?_,⟨gk,k1.keep (kp _ k1.lt h.ne.1.symm h.ne.2.2 nbk),k2⟩,⟨g',hm6.keep ?_,hg'⟩,⟨.inl h.pb.1,.inl h.pb.2.1,.inl h.pb.2.2⟩,o5,fun g hg=>⟨.inl (h.pc g hg).1,(h.pc g hg).2⟩,h.ne,?_⟩,?_⟩
 ·show World.ownsRow _ 0 2 1 v5 (f.nums++[v]).length ((f.nums++[v]).map (Value.int .i64))
  rw[List.length_append,List.map_append]
  exact dK (A:=fun b=>v5.ownBlock=some b) (A':=fun _=>True) hown (fun _ h=>h) fun b hb _=>⟨trivial,Below.heap_setCell _ _ _ _ (o5 b hb).2.1⟩
 ·exact dK (A:=fun b=>c.vC.ownBlock=some b) (A':=fun _=>True) h.rc (fun _ h=>h) fun b hb hl=>⟨trivial,kp b hl (h.pc b hb).2.1 (h.pc b hb).2.2.2 fun e=>(h.pn b e).2.2.2.2 hb⟩
 ·rw[Below.heap_setCell _ _ _ _ (show c.bw≠fb from h.ne.2.1.symm),kp5 c.bw hm6.lt nbw]
 ·have:=h.few
  exact ⟨by show c.nk≤_;omega,hn',by show (f.nums++[v]).length≤_;simp;omega,by show f.code.length≤_;omega,by omega⟩
 ·refine (((bH.refl P w).grown hg6 fun b hb=>.inl ?_).trans (((bH.of_below (P:=fun b=>c.vN.ownBlock=some b) hw0).grown hgr fun b hb=>.inl hb)) fun b _ hb=>(h.pn b hb).1).setCell (.inl h.pb.1) _
  injection hb with hb;rw[<-hb];exact h.pb.2.2
theorem FM.addStep {s:Sp}{w0 w5:World}{v5:Value}(h:FM P w fb m f c) (hw0:Below w.heap.size w w0) (hown:w5.ownsRow 0 39 5 v5 (f.code.length+1) (f.code.flatMap rA++rA s)) (hgr:w0.grownBy w5 c.vC.ownBlock) (hat:v5.ownBlock=c.vC.ownBlock\/v5.ownBlock=some w0.heap.size) (hl:f.code.length<m) :
    FM (Up P w (w5.setCell ⟨fb,3,none⟩ v5)) (w5.setCell ⟨fb,3,none⟩ v5) fb m { f with code:=f.code++[s] } { c with vC:=v5 }/\bH P w (w5.setCell ⟨fb,3,none⟩ v5):=by
 obtain ⟨gk,k1,k2⟩:=h.kn
 obtain ⟨gw,w1,w2⟩:=h.wh
 have s0:=hw0.size
 have s5:=hgr.size
 have lfb:=aB h.hk
 have kp5:∀b,b<w.heap.size->c.vC.ownBlock≠some b->w5.heap[b]?=w.heap[b]?:=fun b hb hn=>by rw[hgr.block b (by omega) (fun e=>hn e.symm),hw0.block b hb]
 have kp:∀b,b<w.heap.size->b≠fb->c.vC.ownBlock≠some b->(w5.setCell ⟨fb,3,none⟩ v5).heap[b]?=w.heap[b]?:=fun b hb h1 h3=>by rw[Below.heap_setCell _ _ _ _ h1,kp5 b hb h3]
 have nfb:c.vC.ownBlock≠some fb:=fun e=>(h.pc fb e).2.1 rfl
 have nbw:c.vC.ownBlock≠some c.bw:=fun e=>(h.pc _ e).2.2.2 rfl
 have nbk:c.vC.ownBlock≠some c.bk:=fun e=>(h.pc _ e).2.2.1 rfl
 have l1:=k1.lt
 have l2:=w1.lt
 have o5:∀g,v5.ownBlock=some g->Up P w (w5.setCell ⟨fb,3,none⟩ v5) g/\g≠fb/\g≠c.bk/\g≠c.bw:=fun g hg=>by
  have hl:=(hown.lt g hg).2
  rcases hat with e|e
  ·have q:=h.pc g (e.symm.trans hg)
   exact ⟨.inl q.1,q.2⟩
  ·rw[hg] at e;injection e with e
   exact ⟨.inr ⟨by omega,by simp[World.setCell];exact hl⟩,by omega,by omega,by omega⟩
 have hk5:w5.heap[fb]?=some (.cells #[.map (some c.bk),.map (some c.bw),c.vN,c.vC] 61 (0,0)):=by rw[kp5 fb lfb nfb,h.hk]
 refine ⟨⟨bQ (l:=[.map (some c.bk),.map (some c.bw),c.vN,c.vC]) hk5 3 v5,?_,?_,⟨gk,k1.keep (kp _ k1.lt h.ne.1.symm nbk),k2⟩,⟨gw,w1.keep (kp _ w1.lt h.ne.2.1.symm nbw),w2⟩,⟨.inl h.pb.1,.inl h.pb.2.1,.inl h.pb.2.2⟩,fun g hg=>?_,o5,h.ne,?_⟩,?_⟩
 ·exact dK (A:=fun b=>c.vN.ownBlock=some b) (A':=fun _=>True) h.rn (fun _ h=>h) fun b hb hl=>⟨trivial,kp b hl (h.pn b hb).2.1 (h.pn b hb).2.2.2.2⟩
 ·show World.ownsRow _ 0 39 5 v5 (f.code++[s]).length ((f.code++[s]).flatMap rA)
  rw[List.length_append,List.flatMap_append,List.flatMap_singleton]
  exact dK (A:=fun b=>v5.ownBlock=some b) (A':=fun _=>True) hown (fun _ h=>h) fun b hb _=>⟨trivial,Below.heap_setCell _ _ _ _ (o5 b hb).2.1⟩
 ·have q:=h.pn g hg
  refine ⟨.inl q.1,q.2.1,q.2.2.1,q.2.2.2.1,fun e=>?_⟩
  have e:v5.ownBlock=some g:=e
  rcases hat with e'|e'
  ·exact q.2.2.2.2 (e'.symm.trans e)
  ·rw[e] at e';injection e' with e'
   have:=(h.rn.lt g hg).2;omega
 ·have:=h.few
  exact ⟨this.1,this.2.1,this.2.2.1,by show (f.code++[s]).length≤_;simp;omega,this.2.2.2.2⟩
 ·exact (((bH.of_below (P:=P) hw0).grown hgr fun b hb=>.inl (h.pc b hb).1)).setCell (.inl h.pb.1) _
end
end Fw
end
end Go.Proofs.YtcdbhoknhnimcaaGreatDoor
