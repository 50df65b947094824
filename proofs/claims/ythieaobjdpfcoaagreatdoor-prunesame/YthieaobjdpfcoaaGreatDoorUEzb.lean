import Derived.Test.YthieaobjdpfcoaaGreatDoorUEb
import Derived.Deep.DeepCutAuto
import Derived.Test.YthieaobjdpfcoaaGreatDoorUYa
import Derived.Test.YthieaobjdpfcoaaGreatDoorUCk2
import Derived.BigQuiet
set_option maxRecDepth 100000
set_option maxHeartbeats 2000000
namespace Go.Proofs.YthieaobjdpfcoaaGreatDoor
section
open Go.RowKit Px
namespace Ew
open Px.Em (Kd Vr)
open Nx (Nt Sp)
section
variable {P:Nat->Prop}{w:World}{kb E:Nat}{ns:List bE}{k:Kd}
theorem fJ.up {α:Type}{w1 w2:World}{l:Kd}{o o2:Option (α×Kd)}{val:α->Value}{e:Ending}(s:∀b,P b->b<w.heap.size) (h:bM P w w1) (y:k.net.places≤l.net.places) (u:o=o2) (n:fJ E ns (Up P w w1) kb w1 l o2 val e w2):fJ E ns P kb w k o val e w2:=by
 subst u
 rcases n with ⟨rfl,j,c⟩|⟨a,r,rfl,j,c⟩
 ·exact .inl ⟨rfl,j,h.up c.out⟩
 ·exact .inr ⟨a,r,rfl,j,c.out.1.up s h.size c.out.2.1.size,h.up c.out.2.1,by have:=c.out.2.2;omega⟩
theorem fJ.below {α:Type}{w1 w2:World}{o:Option (α×Kd)}{val:α->Value}{e:Ending}(s:∀b,P b->b<w.heap.size) (hb:Below w.heap.size w w1) (n:fJ E ns P kb w1 k o val e w2):fJ E ns P kb w k o val e w2:=by
 rcases n with ⟨rfl,j,c⟩|⟨a,r,rfl,j,c⟩
 ·exact .inl ⟨rfl,j,(bM.of_below hb).trans c.out fun _ _ h=>h⟩
 ·have y:=hb.size
  have l:bM P w w2:=(bM.of_below hb).trans c.out.2.1 fun _ _ h=>h
  exact .inr ⟨a,r,rfl,j,c.out.1.mono (fun b u=>u.elim .inl fun h=>.inr ⟨by omega,h.2⟩) (iI s l.size),l,c.out.2.2⟩
theorem fJ.pure {α:Type}{o:Option (α×Kd)}{val:α->Value}{a:α}(h:eK E ns P w kb k) (ho:o=some (a,k)):fJ E ns P kb w k o val (.returned (val a)) w:=
 .inr ⟨a,k,rfl,ho,h.mono (fun _ h=>.inl h) (fun b hb=>hb.elim (h.2.2 b) fun h=>h.2),bM.refl _ _,Int.le_refl _⟩
def numbered (k:Kd) (n p:Int):Kd:={ k with net:={ k.net with nums:=k.net.nums++[n] },nums:=fun m=>if m=n then some p else k.nums m }
theorem yN {n p:Int}(h:k.nums n=some p):Em.bS n k=some (p,k):=by
 show (match k.nums n with|some p=>(Pure.pure p:Em.M Int)|none=>_) k=_
 rw[h];rfl
theorem wK {n:Int}(h:k.nums n=none) (c:Em.made 1 k.net.nums.length 0 0 k=none):Em.bS n k=none:=by
 show (match k.nums n with|some p=>(Pure.pure p:Em.M Int)|none=>_) k=_
 rw[h]
 exact aH c
theorem wJ {n p:Int}{c:Kd}(h:k.nums n=none) (j:Em.made 1 k.net.nums.length 0 0 k=some (p,c)):Em.bS n k=some (p,numbered c n p):=by
 show (match k.nums n with|some p=>(Pure.pure p:Em.M Int)|none=>_) k=_
 rw[h]
 exact bind_some j
theorem F4 {c a b d p:Int}{j:Kd}(h:Em.made c a b d k=some (p,j)):j.net.nums=k.net.nums/\j.net.code.length=k.net.code.length+1/\j.net.nums.length=k.net.nums.length/\j.nums=k.nums/\j.vars=k.vars:=by
 by_cases hc:4000≤k.net.code.length
 ·rw[E9 hc] at h;exact absurd h (by simp)
 ·rw[E8 (by omega)] at h
  injection h with h
  injection h with _ h
  subst h
  exact ⟨rfl,by simp[added,aU],rfl,rfl,rfl⟩
theorem rQ.numbered {n p:Int}(h:rQ E ns k) (hx:jF n) (hl:k.net.nums.length<k.net.code.length):rQ E ns (numbered k n p):=
 ⟨h.len,h.pot,h.code,h.keeps,h.ins,h.outs,by simp[Ew.numbered];omega,h.e,h.nf,fun y hy=>by
  rcases aJ6.1 hy with h'|h'
  ·exact h.nn y h'
  ·rw[aI1.1 h'];exact hx,h.vf,h.out⟩
theorem R7:Maps.Keyed Tryz.prog 2:=Maps.int_keyed Tryz.underlying2
theorem dP {n:Int}(h:eK E ns P w kb k) (hE:E<1000000) (hn:jF n) :
    Calls Tryz.prog 207 #[.pointer (some ⟨kb,0,none⟩),.int .i64 n] w (fJ E ns P kb w k (Em.bS n k) (Value.int .i64)):=by
 obtain ⟨⟨c,hc⟩,hF,Z⟩:=h
 have c8:=hc.cell 8 (u:=.map (some c.mn)) rfl
 obtain ⟨f,Q,hf⟩:=hc.hn
 have D:=Q.look_ok R7 Tryz.underlying133 (o9 w) (Maps.keyOf_int_mk Tryz.underlying2 hn.wf)
 rw[hf n] at D
 cases hkn:k.nums n with
 | some p=>
  rw[hkn] at D
  have ab:(Instr.lookup 133 (.map (some c.mn)) (.int .i64 n) true).run Tryz.prog w=.ok (.tuple #[.int .i64 p,.bool true]) w:=D
  have HC:Hid (eK E ns P w kb k/\_):=⟨⟨⟨c,hc⟩,hF,Z⟩,hkn⟩
  clear hc hF Z Q hf D hkn
  go_enter Tryz.func207,Tryz.ntmps207
  go_wp2_with fail
  go_ret
  exact fJ.pure HC.out.1 (yN HC.out.2)
 | none=>
  rw[hkn] at D
  have ab:(Instr.lookup 133 (.map (some c.mn)) (.int .i64 n) true).run Tryz.prog w=.ok (.tuple #[.int .i64 0,.bool false]) w:=D
  have hr:w.ownsRow 0 2 1 (c.v 5) k.net.nums.length (k.net.nums.map (Value.int .i64)):=hc.row 5 (by omega) (by omega)
  obtain ⟨ao,cap,Y⟩:=aP hr
  have c5:=hc.cell 5 (u:=c.v 5) rfl
  rw[Y] at c5
  have U:=gU 1 (k.net.nums.length:Int) 0 0 ⟨⟨c,hc⟩,hF,Z⟩ hE
  have HK:Hid (k.nums n=none/\rQ E ns k/\∀b,P b->b<w.heap.size):=⟨hkn,hF,Z⟩
  obtain ⟨i0,hi,ax,az,ay⟩:=aX6 Im
  clear hc hF Z Q hf D hkn hr Y
  go_enter Tryz.func207,Tryz.ntmps207
  go_upto_region 4 with (go_at_call 205;refine U.mono ?_;rintro e w1 (⟨rfl,h0,h1⟩|⟨p,I,rfl,h0,h1⟩);(· exact ⟨rfl,.inl ⟨rfl,wK HK.out.1 h0.out,h1⟩⟩))
  clear c8 c5 ab U
  obtain ⟨⟨⟨c1,s⟩,y,au⟩,l,r⟩:=h1.out
  obtain ⟨m1,m2,m3,m4,m5⟩:=F4 h0.out
  have hr:w1.ownsRow 0 2 1 (c1.v 5) I.net.nums.length (I.net.nums.map (Value.int .i64)):=s.row 5 (by omega) (by omega)
  obtain ⟨al,ad,Y⟩:=aP hr
  have c5:=s.cell 5 (u:=c1.v 5) rfl
  rw[Y] at c5 hr
  obtain ⟨m,Q⟩:∃m,m=I.net.nums.length:=⟨_,rfl⟩
  have bc:m≤4000:=by have:=y.nums;have:=y.code;omega
  rw[<-Q] at c5 hr
  have bb:=aB s.hk
  have ak:Hid (w1.heap[kb]?=some (.cells (c1.cells I.net.places).toArray 135 (0,0))/\∀g,(Value.slice al m ad).ownBlock=some g->g≠kb):=⟨s.hk,fun g hg e=>by
   have h1:=s.pr 5 g (by omega) (by omega) (by rw[Y,<-Q];exact hg)
   rw[e,s.p0.2] at h1;exact absurd h1.2 (by omega)⟩
  have aw:Hid (_/\c1.v 5=.slice al m ad/\_/\_/\_/\_/\I.net.nums.length<I.net.code.length/\I.nums n=none):=⟨s,by rw[Q];exact Y,y,l,r,Q,by have:=HK.out.2.1.nums;omega,by rw[m4];exact HK.out.1⟩
  clear s y au l r Y Q m1 m2 m3 m4 m5
  go_upto_region 5 with (at_builtin;refine wpList_append_own_at _ rfl (.tmp 32) (.tmp 34) 22 rfl 0 2 i0 _ 1 8 Tryz.underlying22 hi ax az ay rfl (by decide) _ _ _ rfl (hr.alloc _) ⟨w1.heap.size,0,none⟩ 1 1 [.int .i64 n] rfl rfl (eN _ _ _) (by intro u hu;simp at hu;subst hu;rfl) (by unfold maxLen;omega) (by omega) (by simp) ?_;intro v5 w5 J O _ an;obtain ⟨a5,m5,e5⟩:=aP J;subst e5;have ae:w5.heap[kb]?=some (.cells (c1.cells I.net.places).toArray 135 (0,0)):=by { rw[O.block kb (by simp;omega) (fun e=>(ak.out.2 kb e.symm) rfl),eB ak.out.1] };have d1:=aA ae 5 (u:=c1.v 5) rfl;have f1:=aG ae 5)
  obtain ⟨ah,Y,y,l,r,Q,ai,ap⟩:=aw.out
  obtain ⟨g1,g2⟩:=ah.grow (i:=5) (by omega) (by omega) (w0:=w1.alloc (.cells #[.int .i64 n] 2)) (n5:={ I.net with nums:=I.net.nums++[n] }) (aC _ _) (new:=[.int .i64 n]) (by show World.ownsRow _ _ _ _ _ (I.net.nums.length+1) _;rw[<-Q];exact J) (by rw[Y];exact O) (by rw[Y];exact an) rfl (fun j hj=>by unfold rB pP;split<;>first|exact absurd rfl hj|exact ⟨rfl,rfl⟩) ⟨by simp[rB],by simp[pP]⟩
  obtain ⟨X,hX⟩:∃X,X=w5.setCell ⟨kb,5,none⟩ (.slice a5 (m+1) m5):=⟨_,rfl⟩
  rw[<-hX] at g1 g2 ⊢
  obtain ⟨f,ar,af⟩:=g1.hn
  have x8:=g1.cell 8 (u:=.map (some c1.mn)) rfl
  have am:c1.nn≤I.net.nums.length:=ah.nn
  obtain ⟨w6,ac,ag,av⟩:=ar.put R7 Tryz.underlying133 (by show c1.nn<maxLen;unfold maxLen;omega) (Maps.keyOf_int_mk Tryz.underlying2 hn.wf) (.int .i64 p)
  have ba:(Instr.mapUpdate 133 (.map (some c1.mn)) (.int .i64 n) (.int .i64 p)).run Tryz.prog X=.ok () w6:=ac
  have aj:f (.int .i64 n)=none:=by rw[af n];show (I.nums n).map _=_;rw[ap];rfl
  rw[aj] at ag
  obtain ⟨g3,g4⟩:=g1.setN (nums':=fun m=>if m=n then some p else I.nums m) ag (fun x=>by
   by_cases hxn:x=n
   ·rw[hxn,Gm.pQ _ (by trivial),if_pos rfl];rfl
   ·rw[Gm.nC _ _ (by intro e;injection e with _ e;exact hxn e),if_neg hxn];exact af x) av (by simp;exact aH5 am (aF4 _))
  have hU:∀b,Up (Up P w w1) w1 X b->Up P w w6 b:=fun b hb=>Up.size g4.size b (Up.up l.size g2.size b hb)
  have aa:bM P w w6:=(l.up g2).trans g4 fun b hb hq=>by
   rcases hq with (hq|hq)|hq
   ·exact hq
   ·omega
   ·have:=l.size;omega
  have HF:Hid (fJ E ns P kb w k (Em.bS n k) (Value.int .i64) (.returned (.int .i64 p)) w6):=.inr ⟨p,numbered I n p,rfl,wJ HK.out.1 h0.out,⟨⟨_,g3.mono hU⟩,y.numbered hn ai,iI HK.out.2.2 aa.size⟩,aa,r⟩
  clear hX g1 g2 ar af ac ag av aj g3 g4 hU aa ah Y y l r Q ai ap am J O an ae d1 f1 c5 hr h0 h1
  go_wp2_with fail
  go_ret
  exact HF.out
end
end Ew
end
section
open Go.RowKit Px
namespace Ew
open Px.Em (Kd Vr)
open Nx (Nt Sp)
section
variable {P:Nat->Prop}{w:World}{kb E:Nat}{ns:List bE}{k:Kd}
theorem I2 {a b:Int}(h:a=-1\/b=-1):Em.tX a b k=some (-1,k):=by unfold Em.tX;rw[if_pos h];rfl
theorem Uv {a b:Int}(ha:a≠-1) (hb:b≠-1):Em.tX a b k=Em.made 15 a b 0 k:=by unfold Em.tX;rw[if_neg (by rintro (h|h);exact ha h;exact hb h)]
theorem Wu {a b:Int}(h:a=-1):Em.uZ a b k=some (b,k):=by unfold Em.uZ;rw[if_pos h];rfl
theorem Qq {a b:Int}(ha:a≠-1) (h:b=-1):Em.uZ a b k=some (a,k):=by unfold Em.uZ;rw[if_neg ha,if_pos h];rfl
theorem Wt {a b:Int}(ha:a≠-1) (hb:b≠-1):Em.uZ a b k=Em.made 16 a b 0 k:=by unfold Em.uZ;rw[if_neg ha,if_neg hb]
theorem Us {a b:Int}(h:b=-1):Em.dU a b k=some (a,k):=by unfold Em.dU;rw[if_pos h];rfl
theorem Cq {a b:Int}(hb:b≠-1) (h:a=-1\/a=b):Em.dU a b k=some (-1,k):=by unfold Em.dU;rw[if_neg hb,if_pos h];rfl
theorem Yq {a b:Int}(hb:b≠-1) (ha:a≠-1) (hab:a≠b):Em.dU a b k=Em.made 13 b a 0 k:=by unfold Em.dU;rw[if_neg hb,if_neg (by rintro (h|h);exact ha h;exact hab h)]
theorem tW (a b:Int) (h:eK E ns P w kb k) (u:E<1000000) :
    Calls Tryz.prog 232 #[.pointer (some ⟨kb,0,none⟩),.int .i64 a,.int .i64 b] w (fJ E ns P kb w k (Em.tX a b k) (Value.int .i64)):=by
 by_cases ha:a=-1
 ·rw[I2 (.inl ha)]
  have n:Hid (fJ E ns P kb w k (some (-1,k)) (Value.int .i64) (.returned (.int .i64 (-1))) w):=fJ.pure h rfl
  have t:(a == -1)=true:=by simpa using ha
  clear ha h
  go_enter Tryz.func232,Tryz.ntmps232
  go_wp2_with fail
  go_ret
  exact n.out
 ·by_cases hb:b=-1
  ·rw[I2 (.inr hb)]
   have n:Hid (fJ E ns P kb w k (some (-1,k)) (Value.int .i64) (.returned (.int .i64 (-1))) w):=fJ.pure h rfl
   have t:(a == -1)=false:=by simpa using ha
   have s:(b == -1)=true:=by simpa using hb
   clear ha hb h
   go_enter Tryz.func232,Tryz.ntmps232
   go_wp2_with fail
   go_ret
   exact n.out
  ·rw[Uv ha hb]
   have c:=gU 15 a b 0 h u
   have t:(a == -1)=false:=by simpa using ha
   have s:(b == -1)=false:=by simpa using hb
   clear ha hb h
   go_enter Tryz.func232,Tryz.ntmps232
   go_wp2_with (go_at_call 205;refine c.mono ?_;rintro e w1 (⟨rfl,l,j⟩|⟨p,r,rfl,l,j⟩);(· exact ⟨rfl,.inl ⟨rfl,l,j⟩⟩))
   go_ret
   exact .inr ⟨p,r,rfl,l,j⟩
theorem pS (a b:Int) (h:eK E ns P w kb k) (u:E<1000000) :
    Calls Tryz.prog 211 #[.pointer (some ⟨kb,0,none⟩),.int .i64 a,.int .i64 b] w (fJ E ns P kb w k (Em.uZ a b k) (Value.int .i64)):=by
 by_cases ha:a=-1
 ·rw[Wu ha]
  have n:Hid (fJ E ns P kb w k (some (b,k)) (Value.int .i64) (.returned (.int .i64 b)) w):=fJ.pure h rfl
  have t:(a == -1)=true:=by simpa using ha
  clear ha h
  go_enter Tryz.func211,Tryz.ntmps211
  go_wp2_with fail
  go_ret
  exact n.out
 ·by_cases hb:b=-1
  ·rw[Qq ha hb]
   have n:Hid (fJ E ns P kb w k (some (a,k)) (Value.int .i64) (.returned (.int .i64 a)) w):=fJ.pure h rfl
   have t:(a == -1)=false:=by simpa using ha
   have s:(b == -1)=true:=by simpa using hb
   clear ha hb h
   go_enter Tryz.func211,Tryz.ntmps211
   go_wp2_with fail
   go_ret
   exact n.out
  ·rw[Wt ha hb]
   have c:=gU 16 a b 0 h u
   have t:(a == -1)=false:=by simpa using ha
   have s:(b == -1)=false:=by simpa using hb
   clear ha hb h
   go_enter Tryz.func211,Tryz.ntmps211
   go_wp2_with (go_at_call 205;refine c.mono ?_;rintro e w1 (⟨rfl,l,j⟩|⟨p,r,rfl,l,j⟩);(· exact ⟨rfl,.inl ⟨rfl,l,j⟩⟩))
   go_ret
   exact .inr ⟨p,r,rfl,l,j⟩
theorem oL (a b:Int) (h:eK E ns P w kb k) (y:E<1000000) :
    Calls Tryz.prog 204 #[.pointer (some ⟨kb,0,none⟩),.int .i64 a,.int .i64 b] w (fJ E ns P kb w k (Em.dU a b k) (Value.int .i64)):=by
 by_cases hb:b=-1
 ·rw[Us hb]
  have j:Hid (fJ E ns P kb w k (some (a,k)) (Value.int .i64) (.returned (.int .i64 a)) w):=fJ.pure h rfl
  have t:(b == -1)=true:=by simpa using hb
  clear hb h
  go_enter Tryz.func204,Tryz.ntmps204
  go_wp2_with fail
  go_ret
  exact j.out
 ·by_cases ha:a=-1
  ·rw[Cq hb (.inl ha)]
   have j:Hid (fJ E ns P kb w k (some (-1,k)) (Value.int .i64) (.returned (.int .i64 (-1))) w):=fJ.pure h rfl
   have t:(b == -1)=false:=by simpa using hb
   have r:(a == -1)=true:=by simpa using ha
   clear ha hb h
   go_enter Tryz.func204,Tryz.ntmps204
   go_wp2_with fail
   go_ret
   exact j.out
  ·by_cases hab:a=b
   ·rw[Cq hb (.inr hab)]
    have j:Hid (fJ E ns P kb w k (some (-1,k)) (Value.int .i64) (.returned (.int .i64 (-1))) w):=fJ.pure h rfl
    have t:(b == -1)=false:=by simpa using hb
    have r:(a == -1)=false:=by simpa using ha
    have u:(a==b)=true:=by simpa using hab
    clear ha hb h hab
    go_enter Tryz.func204,Tryz.ntmps204
    go_wp2_with fail
    go_ret
    exact j.out
   ·rw[Yq hb ha hab]
    have c:=gU 13 b a 0 h y
    have t:(b == -1)=false:=by simpa using hb
    have r:(a == -1)=false:=by simpa using ha
    have u:(a==b)=false:=by simpa using hab
    clear ha hb h hab
    go_enter Tryz.func204,Tryz.ntmps204
    go_wp2_with (go_at_call 205;refine c.mono ?_;rintro e w1 (⟨rfl,n,l⟩|⟨p,s,rfl,n,l⟩);(· exact ⟨rfl,.inl ⟨rfl,n,l⟩⟩))
    go_ret
    exact .inr ⟨p,s,rfl,n,l⟩
theorem nU (c so from_:Int) (h:eK E ns P w kb k) :
    Calls Tryz.prog 214 #[.pointer (some ⟨kb,0,none⟩),.int .i64 c,.int .i64 so,.int .i64 from_] w (fJ E ns P kb w k (Em.put c so from_ k) (fun _=>.tuple #[])):=by
 by_cases hcl:4000≤k.net.code.length
 ·have j:=X8 ⟨17,c,so,from_,c⟩ h hcl
  clear h
  go_enter Tryz.func214,Tryz.ntmps214
  go_wp2_with (go_at_call 119;refine j.mono ?_;rintro e w2 ⟨rfl,l⟩)
  exact ⟨rfl,.inl ⟨rfl,if_pos hcl,l⟩⟩
 ·have j:=Gz (E:=E) ⟨17,c,so,from_,c⟩ h (by omega) h.2.1.e (by omega)
  clear h
  go_enter Tryz.func214,Tryz.ntmps214
  go_wp2_with (go_at_call 119;refine j.mono ?_;rintro e w2 ⟨rfl,l⟩)
  go_end0
  exact .inr ⟨(),_,rfl,if_neg hcl,l.out.1,l.out.2,Int.le_refl _⟩
theorem vH (so p:Int) (h:eK E ns P w kb k) (y:E<1000000) :
    Calls Tryz.prog 209 #[.pointer (some ⟨kb,0,none⟩),.int .i64 so,.int .i64 p] w (fJ E ns P kb w k (Em.given so p k) (Value.int .i64)):=by
 have c:=dP (n:=0) h y jF.zero
 have HP:Hid _:=h.2.2
 clear h
 go_enter Tryz.func209,Tryz.ntmps209
 go_wp2_with (first
  | (go_at_call 207;refine c.mono ?_;rintro e w1 (⟨rfl,r,j⟩|⟨z,I,rfl,r,j⟩);(· exact ⟨rfl,.inl ⟨rfl,aH r.out,j⟩⟩);have l:=gU 17 so p z j.out.1 y;clear c)
  | (go_at_call 205;refine l.mono ?_;rintro e w2 (⟨rfl,s,u⟩|⟨q,D,rfl,s,u⟩);(· exact ⟨rfl,fJ.up HP.out j.out.2.1 j.out.2.2 (bind_some r.out) (.inl ⟨rfl,s,u⟩)⟩)))
 go_ret
 exact fJ.up HP.out j.out.2.1 j.out.2.2 (bind_some r.out) (.inr ⟨q,D,rfl,s,u⟩)
theorem nX (i:Nat) (c:i≤1000000):Calls Tryz.prog 158 #[.int .i64 (i:Int)] w fun e w'=>e=.returned (.int .i64 ((i:Int)+1))/\w'=w:=by
 go_enter Tryz.func158,Tryz.ntmps158
 go_wp2_with fail
 go_ret
 exact ⟨rfl,rfl⟩
theorem Ia {i:Nat}(hi:i≤1000000):jF ((i:Int)+1):=by unfold jF;omega
theorem Q8 (p:Int) (i:Nat) (I:i≤1000000) (h:eK E ns P w kb k) (J:E<1000000) :
    Calls Tryz.prog 163 #[.pointer (some ⟨kb,0,none⟩),.int .i64 p,.int .i64 (i:Int)] w (fJ E ns P kb w k (Em.is p i k) (Value.int .i64)):=by
 have c:=dP (n:=(i:Int)+1) h J (Ia I)
 have r:=nX (w:=w) i I
 have HP:Hid _:=h.2.2
 clear h
 go_enter Tryz.func163,Tryz.ntmps163
 go_wp2_with (first
  | (go_at_call 158;refine r.mono ?_;rintro e w0 ⟨rfl,y⟩;obtain rfl:=y.symm;clear r)
  | (go_at_call 207;refine c.mono ?_;rintro e w1 (⟨rfl,s,j⟩|⟨z,Q,rfl,s,j⟩);(· exact ⟨rfl,.inl ⟨rfl,aH s.out,j⟩⟩);have l:=gU 11 p z 0 j.out.1 J;clear c)
  | (go_at_call 205;refine l.mono ?_;rintro e w2 (⟨rfl,u,D⟩|⟨q,O,rfl,u,D⟩);(· exact ⟨rfl,fJ.up HP.out j.out.2.1 j.out.2.2 (bind_some s.out) (.inl ⟨rfl,u,D⟩)⟩)))
 go_ret
 exact fJ.up HP.out j.out.2.1 j.out.2.2 (bind_some s.out) (.inr ⟨q,O,rfl,u,D⟩)
end
end Ew
end
section
open Go.RowKit Px
def sG:E->Prop
 | .nil=>True
 | .node _ _ a l r=>a.name.length≤maxLen/\jF a.num/\sG l/\sG r
def qE (ns:List bE) (l:List iY):Prop:=∀a∈l,a.name∈ns/\a.name.length≤maxLen/\sG a.e
structure StR {σ:Type}(ns:List bE) (s:cF σ):Prop where
 en:qE ns s.enter
 du:qE ns s.during
 le:qE ns s.leave
 re:sG s.rests
 wy:∀y∈s.ways,sG y.cond/\qE ns y.sets
 wl:s.ways.length≤maxLen
 il:s.regions.length≤maxLen
def rO (ns:List bE):(k:Nat)->List (St k)->Prop
 | 0=>fun _=>True
 | k+1=>fun L=>∀s∈(show List (cF (St k)) from L),StR ns s/\∀r∈s.regions,rO ns k r
def vW:(k:Nat)->List (St k)->Prop
 | 0=>fun _=>False
 | k+1=>fun L=>jC (ρ:=St k) L=1/\Zd (bD (ρ:=St k) L)/\(∀s∈(show List (cF (St k)) from L),∀y∈s.ways,∃t,jT (bD (ρ:=St k) L) y.to=some t)/\List.length L≤1000000/\∀s∈(show List (cF (St k)) from L),s.name.length≤maxLen/\s.ways.length≤1000000/\s.regions.length≤1000000/\(∀y∈s.ways,y.to.length≤maxLen)/\∀r∈s.regions,vW k r
structure Vi (c:fZ):Prop where
 vl:c.vars.length≤1000000
 vn:∀v∈c.vars,v.name.length≤maxLen
 rl:c.regions.length≤maxLen
 st:∀L∈c.regions,rO (cG c.vars) 6 L
end
section
open Go.RowKit Px
namespace Ew
open Px.Em (Kd Vr)
open Nx (Nt Sp)
section
variable {P A:Nat->Prop}{w:World}{kb E:Nat}{ns:List bE}{k:Kd}
theorem Vq (w:World):(zeroValue 183).run Tryz.prog w=.ok (Jo vr0) w:=by kernel_rfl
theorem CM.lookV {c:Cv}(h:CM P w kb k c) {s:bE}(n:s.length≤maxLen):(Instr.lookup 132 (.map (some c.mv)) (sv s) false).run Tryz.prog w=.ok (Jo (k.vars s)) w:=by
 obtain ⟨f,l,j⟩:=h.hv
 rw[l.look sT Tryz.underlying132 (Vq w) (Pq n),j s]
def wased (k:Kd) (s:bE) (v:Vr) (p:Int):Kd:={ k with vars:=fun t=>if t=s then ⟨v.now,p,v.first⟩ else k.vars t }
theorem Hh {s:bE}(h:(k.vars s).was≠-1):Em.sN s k=some ((k.vars s).was,k):=by
 show (if (k.vars s).was=-1 then _ else (Pure.pure (k.vars s).was:Em.M Int)) k=_
 rw[if_neg h];rfl
theorem Hg {s:bE}(h:(k.vars s).was=-1):Em.sN s k=some (k.net.places,wased (bF (aU k (k.vars s).first) k.net.places) s (k.vars s) k.net.places):=by
 show (if (k.vars s).was=-1 then _ else (Pure.pure (k.vars s).was:Em.M Int)) k=_
 rw[if_pos h];rfl
theorem Bm {α:Type}{p q:α->Bool}(c:∀a,q a=true->p a=true) {s:α}(n:p s=true) (j:q s=false):∀{l:List α},s∈l->(l.filter q).length+1≤(l.filter p).length:=by
 intro l
 induction l with
 | nil=>intro h;simp at h
 | cons a r ih=>
  intro h
  have u:(r.filter q).length≤(r.filter p).length:=by
   clear ih h
   induction r with
   | nil=>simp
   | cons b r ih=>
    rw[List.filter_cons,List.filter_cons]
    by_cases hb:q b=true
    ·rw[if_pos hb,if_pos (c b hb)];simp;omega
    ·rw[if_neg hb];split<;>first|omega|(simp;omega)
  rw[List.filter_cons,List.filter_cons]
  rcases aO6.1 h with rfl|h
  ·rw[j,if_neg (by simp),if_pos n];simp;omega
  ·have:=ih h
   by_cases hb:q a=true
   ·rw[if_pos hb,if_pos (c a hb)];simp;omega
   ·rw[if_neg hb];split<;>first|omega|(simp;omega)
theorem rQ.wased {s:bE}{p:Int}{v:Vr}(h:rQ (E+1) ns k) (y:E≤1000000) (j:(k.vars s).was=-1) (l:p≠-1) (u:jF v.first):rQ E ns (Ew.wased k s v p):=by
 have c:s∈ns:=by
  by_cases c:s∈ns
  ·exact c
  ·exact absurd j (h.out s c)
 have D:yP ns (Ew.wased k s v p)+1≤yP ns k:=Bm (s:=s) (fun a n=>by
  simp only[Ew.wased] at n
  by_cases has:a=s
  ·subst has;simpa using j
  ·simpa [has] using n) (by simpa using j) (by simp[Ew.wased];exact l) c
 have:=h.pot
 refine ⟨h.len,?_,h.code,h.keeps,h.ins,h.outs,h.nums,y,h.nf,h.nn,fun t=>?_,fun t r=>?_⟩
 ·show k.net.first.length+_≤k.net.code.length+E;omega
 ·show jF (if t=s then (⟨v.now,p,v.first⟩:Vr) else k.vars t).first
  split
  ·exact u
  ·exact h.vf t
 ·show (if t=s then (⟨v.now,p,v.first⟩:Vr) else k.vars t).was≠-1
  split
  ·exact l
  ·exact h.out t r
theorem Vu {s:bE}(hs:s.length≤maxLen) (h:eK E ns P w kb k) (hE:E<1000000) :
    Calls Tryz.prog 230 #[.pointer (some ⟨kb,0,none⟩),sv s] w (fJ E ns P kb w k (Em.sN s k) (Value.int .i64)):=by
 obtain ⟨⟨c,hc⟩,hF,I⟩:=h
 have c7:=hc.cell 7 (u:=.map (some c.mv)) rfl
 have af:=hc.lookV hs
 have j:=hF.vf s
 obtain ⟨W,hW⟩:∃W,W=w.alloc (.cells #[.int .i64 (k.vars s).now,.int .i64 (k.vars s).was,.int .i64 (k.vars s).first] 183):=⟨_,rfl⟩
 have Y:Below w.heap.size w W:=by rw[hW];exact aC _ _
 have n:W.heap[w.heap.size]?=some (.cells #[.int .i64 (k.vars s).now,.int .i64 (k.vars s).was,.int .i64 (k.vars s).first] 183 (0,0)):=by rw[hW];exact aX w _
 obtain ⟨q,hq⟩:∃q,q=w.heap.size:=⟨_,rfl⟩
 rw[<-hq] at n
 have Q:eK E ns P W kb k:=eK.below ⟨⟨c,hc⟩,hF,I⟩ Y
 have HH:Hid (_/\_/\_/\_/\_/\_/\¬P q):=⟨Q,Y,I,hq.symm,n,hs,fun hp=>by have:=I q hp;omega⟩
 obtain ⟨vn,vw,r,hv⟩:∃vn vw r,k.vars s=⟨vn,vw,r⟩:=⟨_,_,_,rfl⟩
 rw[hv] at hW n HH j
 have J:(Instr.lookup 132 (.map (some c.mv)) (sv s) false).run Tryz.prog w=.ok (.agg #[.int .i64 vn,.int .i64 vw,.int .i64 r]) w:=by rw[af,hv];rfl
 have x0:=aA n 0 (u:=.int .i64 vn) rfl
 have x1:=aA n 1 (u:=.int .i64 vw) rfl
 have x2:=aA n 2 (u:=.int .i64 r) rfl
 have HV:Hid _:=hv
 obtain ⟨S,hS⟩:∃S,S=sv s:=⟨_,rfl⟩
 have HS:Hid _:=hS
 rw[<-hS] at J ⊢
 by_cases hw:vw=-1
 ·have y:=yX (x:=r) Q hE j
  obtain ⟨p,hp⟩:∃p,p=k.net.places:=⟨_,rfl⟩
  have HP:Hid (_/\p≠-1/\_):=⟨hp,by have:=hF.len;omega,hF.len⟩
  rw[<-hp] at y
  have t:(vw == -1)=true:=by simpa using hw
  have HW:Hid _:=hw
  clear hc hF I af Q Y n hs hv hS hw hp
  go_enter Tryz.func230,Tryz.ntmps230
  go_upto_region 2 with fail
  rw[<-hW,<-hq]
  clear hW hq c7 J
  go_upto_region 4 with (go_at_call 115;refine y.mono ?_;rintro e w1 ⟨rfl,h1⟩;have aa:=h1.out.2.heap HH.out.2.2.2.2.1 HH.out.2.2.2.2.2.2;have d1:=aA aa 1 (u:=.int .i64 vw) rfl;have f1:=aG aa 1)
  obtain ⟨X,hX⟩:∃X,X=w1.setCell ⟨q,1,none⟩ (.int .i64 p):=⟨_,rfl⟩
  have D:X.heap[q]?=some (.cells #[.int .i64 vn,.int .i64 p,.int .i64 r] 183 (0,0)):=by rw[hX];exact cH (l:=[.int .i64 vn,.int .i64 vw,.int .i64 r]) aa 1 _
  have ai:¬Up P W w1 q:=fun hu=>hu.elim HH.out.2.2.2.2.2.2 fun h=>by have:=aB HH.out.2.2.2.2.1;omega
  have O:bB (Up P W w1) (Up P W w1) w1 X:=fun b hb hl=>⟨hb,by rw[hX];exact Below.heap_setCell _ _ _ _ (fun e=>ai (by have e:b=q:=e;rw[<-e];exact hb))⟩
  obtain ⟨⟨⟨c1,ah⟩,ae,ao⟩,ad⟩:=h1.out
  have U:=ah.carry O
  have am:bM P w X:=by rw[hX];exact ((bM.of_below HH.out.2.1).trans ad fun _ _ h=>h).setCell (.inr (by rw[HH.out.2.2.2.1];exact aF4 _)) _
  have ap:X.heap.size=w1.heap.size:=by rw[hX];simp[World.setCell]
  obtain ⟨f,hm,hf⟩:=U.hv
  have al:Gm.Mp Tryz.prog 9 X.drew c1.mv c1.nv f:=hm.keep rfl
  have ak:c1.nv≤(bF (aU k r) p).net.first.length:=U.nv
  obtain ⟨w6,ac,ag,aj⟩:=al.put sT Tryz.underlying132 (by have:=ae.few;unfold maxLen;omega) (Pq HH.out.2.2.2.2.2.1) (Jo ⟨vn,p,r⟩)
  have ab:(f (.string s)).isSome=true:=by
   have:=hf s
   show _
   cases ab:f (.string s) with
   | some v=>rfl
   | none=>
    rw[ab] at this
    have h2:Jo vr0=Jo (k.vars s):=this
    rw[HV.out,HW.out] at h2
    simp[Jo,vr0] at h2
  rw[ab,if_pos rfl] at ag
  have av:(Instr.mapUpdate 132 (.map (some c1.mv)) S (.agg #[.int .i64 vn,.int .i64 p,.int .i64 r])).run Tryz.prog X.drew=.ok () w6:=by rw[HS.out];exact ac
  have an:CM (Up P W w1) X.drew kb (bF (aU k r) p) c1:=U.carry fun b hb _=>⟨hb,rfl⟩
  obtain ⟨g3,g4⟩:=an.setV (vars':=(wased (bF (aU k r) p) s (k.vars s) p).vars) ag (fun t=>by
   show ((Gm.put f _ _) _).getD _=Jo (if t=s then ⟨(k.vars s).now,p,(k.vars s).first⟩ else k.vars t)
   by_cases hts:t=s
   ·rw[hts,Gm.pQ _ (by trivial),if_pos rfl,HV.out];rfl
   ·rw[Gm.nC _ _ (by intro e;injection e with e;exact hts e),if_neg hts];exact hf t) aj ak
  have z7:=U.cell 7 (u:=.map (some c1.mv)) rfl
  have y0:=aA D 0 (u:=.int .i64 vn) rfl
  have y1:=aA D 1 (u:=.int .i64 p) rfl
  have y2:=aA D 2 (u:=.int .i64 r) rfl
  have au:q≠c1.mv:=fun e=>ai (e▸ah.pv.1)
  have ar:w6.heap[q]?=some (.cells #[.int .i64 vn,.int .i64 p,.int .i64 r] 183 (0,0)):=by rw[aj.block q (aB D) (fun e=>au (by injection e))];exact D
  have z1:=aA ar 1 (u:=.int .i64 p) rfl
  have aw:=HH.out.2.1.size
  have Z:bM P w w6:=(am.drew).trans g4 fun b hb hq=>hq.elim id fun h=>absurd h.1 (by omega)
  have HF:Hid (fJ E ns P kb w k (Em.sN s k) (Value.int .i64) (.returned (.int .i64 p)) w6):=by
   refine .inr ⟨p,wased (bF (aU k r) p) s (k.vars s) p,rfl,?_,⟨⟨_,g3.mono fun b hb=>?_⟩,?_,iI HH.out.2.2.1 Z.size⟩,Z,?_⟩
   ·have:=Hg (k:=k) (s:=s) (by rw[HV.out];exact HW.out)
    rw[<-HP.out.1,HV.out] at this
    rw[HV.out]
    exact this
   ·rcases hb with hb|hb
    ·exact .inl hb
    ·exact .inr ⟨by omega,by have h1:w1.heap.size≤w6.heap.size:=by { rw[<-ap];exact g4.size };omega⟩
   ·exact ae.wased (by omega) (by show (k.vars s).was=-1;rw[HV.out];exact HW.out) HP.out.2.1 (by rw[HV.out];exact j)
   ·show k.net.places≤k.net.places+1;omega
  rw[<-hX]
  clear hX D ai O ah ae ao ad U am ap hm hf al ak ac ag aj ab an g3 g4 ar aw Z h1 aa d1 f1 y
  go_region
  all_goals
   go_wp2_with fail
   go_ret
   exact HF.out
 ·have t:(vw == -1)=false:=by simpa using hw
  have HF:Hid (fJ E ns P kb w k (Em.sN s k) (Value.int .i64) (.returned (.int .i64 vw)) W):=fJ.below I Y (by
   have h1:=fJ.pure (o:=Em.sN s k) (val:=Value.int .i64) (a:=vw) Q (by rw[Hh (by rw[hv];exact hw),hv])
   exact h1)
  clear hc hF I af Q Y n hs hv hS hw
  go_enter Tryz.func230,Tryz.ntmps230
  go_upto_region 2 with fail
  rw[<-hW,<-hq]
  clear hW hq c7 J
  go_wp2_with fail
  go_ret
  exact HF.out
end
end Ew
end
section
open Go.RowKit Px
namespace Ew
open Px.Em (Kd Vr)
open Nx (Nt Sp)
section
variable {P A:Nat->Prop}{w:World}{kb E:Nat}{ns:List bE}{k:Kd}
theorem yL {x:Int}(h:eK E ns P w kb k) (hE:E<1000000) (hx:jF x) :
    Calls Tryz.prog 114 #[.pointer (some ⟨kb,0,none⟩),.int .i64 x] w fun e w'=>e=.returned (.int .i64 k.net.places)/\Hid ((∃c,CM (Up P w w') w' kb (aU k x) c/\c.nv+1≤k.net.first.length+1)/\rQ (E+1) ns (aU k x)/\(∀b,Up P w w' b->b<w'.heap.size)/\bM P w w'):=by
 obtain ⟨⟨c,J⟩,O,Y⟩:=h
 obtain ⟨i0,hi,aa,ab,ac⟩:=aX6 Im
 have U:w.ownsRow 0 2 1 (c.v 1) k.net.first.length (k.net.first.map (Value.int .i64)):=J.row 1 (by omega) (by omega)
 obtain ⟨ao,cap,I⟩:=aP U
 have c1:=J.cell 1 (u:=c.v 1) rfl
 have HC:Hid (_/\_/\_):=⟨J,O,I⟩
 rw[I] at c1 U
 have hl:=O.few
 have hp:0≤k.net.places/\k.net.places≤1004000:=by have:=O.len;omega
 obtain ⟨p,l⟩:∃p,p=k.net.places:=⟨_,rfl⟩
 have HP:Hid _:=l
 rw[<-l] at hp
 have D:=J.hk
 rw[<-l] at D
 rw[<-l]
 obtain ⟨n,Q⟩:∃n,n=k.net.first.length:=⟨_,rfl⟩
 have HN:Hid _:=Q
 rw[<-Q] at c1 U hl
 obtain ⟨ad,ae⟩:=hp
 have af:=aB D
 have HK:Hid (w.heap[kb]?=some (.cells (c.cells p).toArray 135 (0,0))/\∀g,(Value.slice ao n cap).ownBlock=some g->g≠kb):=⟨D,fun g hg e=>by
  have h1:=J.pr 1 g (by omega) (by omega) (by rw[I,<-Q];exact hg)
  rw[e,J.p0.2] at h1;exact absurd h1.2 (by omega)⟩
 have ag:IntKind.i64.wrap (p+1)=p+1:=by rw[IntKind.wrap_i64];omega
 have ah:IntKind.i64.wrap (p+1-1)=p:=by rw[IntKind.wrap_i64];omega
 clear J O I l Q D
 go_enter Tryz.func114,Tryz.ntmps114
 go_wp2_with (at_builtin;refine wpList_append_own_at _ rfl (.tmp 10) (.tmp 12) 22 rfl 0 2 i0 _ 1 8 Tryz.underlying22 hi aa ab ac rfl (by decide) _ _ _ rfl (U.alloc _) ⟨w.heap.size,0,none⟩ 1 1 [.int .i64 x] rfl rfl (eN _ _ _) (by intro u hu;simp at hu;subst hu;rfl) (by unfold maxLen;omega) (by omega) (by simp) ?_;intro v5 w5 r s _ Z;obtain ⟨a5,m5,e5⟩:=aP r;subst e5;have y:w5.heap[kb]?=some (.cells (c.cells p).toArray 135 (0,0)):=by { rw[s.block kb (by simp;omega) (fun e=>(HK.out.2 kb e.symm) rfl),eB HK.out.1] };have d0:=aA y 0 (u:=.int .i64 p) rfl;have d1:=aA y 1 (u:=c.v 1) rfl;have f0:=aG y 0;have f1:=aG y 1)
 go_ret
 refine ⟨rfl,?_⟩
 obtain ⟨hC,O,I⟩:=HC.out
 rw[<-HN.out] at I
 obtain ⟨g1,g2⟩:=hC.grow (i:=1) (by omega) (by omega) (w0:=w.alloc (.cells #[.int .i64 x] 2)) (n5:={ k.net with first:=k.net.first++[x] }) (aC _ _) (new:=[.int .i64 x]) (by show World.ownsRow _ _ _ _ _ (k.net.first.length+1) _;rw[<-HN.out];exact r) (by rw[I];exact s) (by rw[I];exact Z) rfl (fun j hj=>by unfold rB pP;split<;>first|exact absurd rfl hj|exact ⟨rfl,rfl⟩) ⟨by simp[rB],by simp[pP]⟩
 obtain ⟨g3,g4⟩:=g1.setP (p+1)
 have e:aU k x={ ({ k with net:={ k.net with first:=k.net.first++[x] } }:Kd) with net:={ ({ k with net:={ k.net with first:=k.net.first++[x] } }:Kd).net with places:=p+1 } }:=by rw[HP.out];rfl
 rw[<-e] at g3
 exact ⟨⟨_,g3.mono (Up.size g4.size),Nat.succ_le_succ hC.nv⟩,O.place hE hx,iI Y (g2.trans g4 fun b hb X=>X.elim id fun h=>absurd h.1 (by omega)).size,g2.trans g4 fun b hb X=>X.elim id fun h=>absurd h.1 (by omega)⟩
theorem Lz {x:Int}(h:eK E ns P w kb k) (hE:E<1000000) (hx:jF x) :
    Calls Tryz.prog 115 #[.pointer (some ⟨kb,0,none⟩),.int .i64 x] w fun e w'=>e=.returned (.int .i64 k.net.places)/\Hid ((∃c,CM (Up P w w') w' kb (bF (aU k x) k.net.places) c/\c.nv+1≤k.net.first.length+1)/\rQ (E+1) ns (bF (aU k x) k.net.places)/\(∀b,Up P w w' b->b<w'.heap.size)/\bM P w w'):=by
 have l:=yL h hE hx
 have HH:Hid (rQ E ns k/\∀b,P b->b<w.heap.size):=h.2
 obtain ⟨i0,hi,ab,ac,ad⟩:=aX6 Sk
 obtain ⟨p,hp⟩:∃p,p=k.net.places:=⟨_,rfl⟩
 rw[<-hp] at l ⊢
 clear h hp
 go_enter Tryz.func115,Tryz.ntmps115
 go_upto_region 2 with (go_at_call 114;refine l.mono ?_;rintro e w1 ⟨rfl,X⟩)
 obtain ⟨⟨c,J,D⟩,hF,ae,r⟩:=X.out
 have Z:w1.ownsRow 0 3 1 (c.v 4) (aU k x).net.keeps.length ((aU k x).net.keeps.map (Value.int .i64)):=J.row 4 (by omega) (by omega)
 obtain ⟨ao,cap,I⟩:=aP Z
 have c1:=J.cell 4 (u:=c.v 4) rfl
 have HC:Hid (_/\_/\_/\_):=⟨J,I,r,D⟩
 rw[I] at c1 Z
 have hl:=hF.few
 have U:=hF.keeps
 obtain ⟨n,Y⟩:∃n,n=(aU k x).net.keeps.length:=⟨_,rfl⟩
 have HN:Hid _:=Y
 rw[<-Y] at c1 Z U
 have O:=J.hk
 have ag:=aB O
 have HK:Hid (w1.heap[kb]?=some (.cells (c.cells (aU k x).net.places).toArray 135 (0,0))/\∀g,(Value.slice ao n cap).ownBlock=some g->g≠kb):=⟨O,fun g hg e=>by
  have X:=J.pr 4 g (by omega) (by omega) (by rw[I,<-Y];exact hg)
  rw[e,J.p0.2] at X;exact absurd X.2 (by omega)⟩
 have af:n≤1004000:=by omega
 clear J hF I Y O hl U r X l D
 go_wp2_with (at_builtin;refine wpList_append_own_at _ rfl (.tmp 14) (.tmp 16) 23 rfl 0 3 i0 _ 1 8 Tryz.underlying23 hi ab ac ad rfl (by decide) _ _ _ rfl (Z.alloc _) ⟨w1.heap.size,0,none⟩ 1 1 [.int .i64 p] rfl rfl (eN _ _ _) (by intro u hu;simp at hu;subst hu;rfl) (by unfold maxLen;omega) (by omega) (by simp) ?_;intro v5 w5 s y _ aa;obtain ⟨a5,m5,e5⟩:=aP s;subst e5;have Q:w5.heap[kb]?=some (.cells (c.cells (aU k x).net.places).toArray 135 (0,0)):=by { rw[y.block kb (by simp;omega) (fun e=>(HK.out.2 kb e.symm) rfl),eB HK.out.1] };have d1:=aA Q 4 (u:=c.v 4) rfl;have f1:=aG Q 4)
 go_ret
 refine ⟨rfl,?_⟩
 obtain ⟨hC,I,r,D⟩:=HC.out
 rw[<-HN.out] at I
 obtain ⟨g1,g2⟩:=hC.grow (i:=4) (by omega) (by omega) (w0:=w1.alloc (.cells #[.int .i64 p] 3)) (n5:=(bF (aU k x) p).net) (aC _ _) (new:=[.int .i64 p]) (by show World.ownsRow _ _ _ _ _ ((aU k x).net.keeps.length+1) _;rw[<-HN.out];exact s) (by rw[I];exact y) (by rw[I];exact aa) rfl (fun j hj=>by unfold rB pP;split<;>first|exact absurd rfl hj|exact ⟨rfl,rfl⟩) ⟨by simp[rB,bF],by simp[pP,bF]⟩
 exact ⟨⟨_,g1.mono (Up.up r.size g2.size),D⟩,HH.out.1.kept hE hx,iI HH.out.2 (r.up g2).size,r.up g2⟩
theorem Zj {l:List bQ}{v:Value}(h:mJ A w l v) :
    ∃ad g cap,v=.slice ad l.length cap/\l.length≤maxLen/\(0<l.length->ad=some ⟨g,0,none⟩/\A g)/\∀(i:Nat) (a:bQ),l[i]?=some a->w.cell? ⟨g,i*3,none⟩=some (.int .i64 (a.kind:Int))/\w.cell? ⟨g,i*3+1,none⟩=some (sv a.name)/\w.cell? ⟨g,i*3+2,none⟩=some (.int .i64 a.first):=by
 obtain ⟨O,I,y⟩:=h
 obtain ⟨ad,g,cap,u,s,r,J⟩:=wU.open (k:=3) (fun a c j=>by rw[show c=_ from j];rfl) I y
 refine ⟨ad,g,cap,u,s,fun n=>⟨(r n).1,(r n).2.1⟩,fun i a D=>?_⟩
 obtain ⟨c,j,hx⟩:=J i a D
 obtain rfl:c=_:=j
 exact ⟨hx 0 _ rfl,hx 1 _ rfl,hx 2 _ rfl⟩
def CM1 (E:Nat) (ns:List bE) (P:Nat->Prop) (w:World) (kb:Nat) (k:Kd):Prop:=(∃c,CM P w kb k c/\c.nv+1≤k.net.first.length)/\rQ E ns k/\(∀b,P b->b<w.heap.size)/\k.net.first.length+ns.length≤k.net.code.length+E
def nM (k:Kd) (p:Int):Kd:={ k with net:={ k.net with ins:=k.net.ins++[p] } }
def lV (k:Kd) (p:Int):Kd:={ k with net:={ k.net with outs:=k.net.outs++[p] } }
def jU (k:Kd) (s:bE) (v:Vr):Kd:={ k with vars:=fun t=>if t=s then v else k.vars t }
theorem An:yP ns k≤ns.length:=List.length_filter_le _ _
theorem rQ.ofPot {c:Kd}(h:rQ E ns k) (O:k.net.first.length+ns.length≤k.net.code.length+E) (j:c.net.first=k.net.first) (u:c.net.places=k.net.places) (l:c.net.code=k.net.code) (D:c.net.keeps=k.net.keeps) (n:c.net.nums=k.net.nums) (r:c.net.ins.length≤k.net.first.length) (I:c.net.outs.length≤k.net.first.length) (y:∀s,jF (c.vars s).first) (J:∀s,s∉ns->(c.vars s).was≠-1):rQ E ns c:=by
 have:=An (ns:=ns) (k:=c)
 refine ⟨by rw[j,u];exact h.len,by rw[j,l];omega,by rw[l];exact h.code,by rw[j,D];exact h.keeps,by rw[j];exact r,by rw[j];exact I,by rw[l,n];exact h.nums,h.e,by rw[j];exact h.nf,by rw[n];exact h.nn,y,J⟩
theorem CM1.put (h:CM1 E ns P w kb k) {s:bE}{v:Vr}(Y:s.length≤maxLen) (r:s∈ns) (hv:jF v.first) (S:Value) (Z:S=sv s):∃mv w6,w.cell? ⟨kb,7,none⟩=some (.map (some mv))/\(Instr.mapUpdate 132 (.map (some mv)) S (.agg #[.int .i64 v.now,.int .i64 v.was,.int .i64 v.first])).run Tryz.prog w.drew=.ok () w6/\eK E ns P w6 kb (jU k s v)/\bM P w w6:=by
 obtain ⟨⟨c,O,aa⟩,j,I,l⟩:=h
 obtain ⟨f,hm,hf⟩:=O.hv
 have D:Gm.Mp Tryz.prog 9 w.drew c.mv c.nv f:=hm.keep rfl
 obtain ⟨w6,n,y,J⟩:=D.put sT Tryz.underlying132 (by have:=j.few;unfold maxLen;omega) (Pq Y) (Jo v)
 have u:CM P w.drew kb k c:=O.carry fun b hb _=>⟨hb,rfl⟩
 obtain ⟨X,U⟩:=u.setV (vars':=(jU k s v).vars) y (fun t=>by
  show ((Gm.put f _ _) _).getD _=Jo (if t=s then v else k.vars t)
  by_cases hts:t=s
  ·rw[hts,Gm.pQ _ (by trivial),if_pos rfl];rfl
  ·rw[Gm.nC _ _ (by intro e;injection e with e;exact hts e),if_neg hts];exact hf t) J (by split<;>omega)
 refine ⟨c.mv,w6,O.cell 7 rfl,by rw[Z];exact n,⟨⟨_,X⟩,j.ofPot l rfl rfl rfl rfl rfl j.ins j.outs (fun t=>?_) (fun t Q=>?_),fun b hb=>aH3 (I b hb) U.size⟩,(bM.refl P w).drew.trans U fun _ _ h=>h⟩
 ·show jF (if t=s then v else k.vars t).first
  split
  ·exact hv
  ·exact j.vf t
 ·show (if t=s then v else k.vars t).was≠-1
  rw[if_neg (fun e:t=s=>Q (e▸r))];exact j.out t Q
end
end Ew
end
end Go.Proofs.YthieaobjdpfcoaaGreatDoor
