import Derived.Test.YtdeklanmddlgpaaGreatDoorSEb
import Derived.Deep.DeepCutAuto
import Derived.Test.YtdeklanmddlgpaaGreatDoorSUa
import Derived.Test.YtdeklanmddlgpaaGreatDoorSCk2
import Derived.BigQuiet
set_option maxRecDepth 100000
set_option maxHeartbeats 2000000
namespace Go.Proofs.YtdeklanmddlgpaaGreatDoor
section
open Go.RowKit Px
namespace Ew
open Px.Em (Kd Vr)
open Nx (Nt Sp)
section
variable {P:Nat->Prop}{w:World}{kb E:Nat}{ns:List AW}{k:Kd}
theorem B5.up {α:Type}{w1 w2:World}{k1:Kd}{o o2:Option (α×Kd)}{val:α->Value}{e:Ending}(hP:∀b,P b->b<w.heap.size) (h1:Ap P w w1) (hp:k.net.places≤k1.net.places) (ho:o=o2) (h2:B5 E ns (Up P w w1) kb w1 k1 o2 val e w2):B5 E ns P kb w k o val e w2:=by
 subst ho
 rcases h2 with ⟨rfl,h3,h4⟩|⟨a,k',rfl,h3,h4⟩
 ·exact .inl ⟨rfl,h3,h1.up h4.out⟩
 ·exact .inr ⟨a,k',rfl,h3,h4.out.1.up hP h1.size h4.out.2.1.size,h1.up h4.out.2.1,by have:=h4.out.2.2;omega⟩
theorem B5.below {α:Type}{w1 w2:World}{o:Option (α×Kd)}{val:α->Value}{e:Ending}(hP:∀b,P b->b<w.heap.size) (hb:Below w.heap.size w w1) (h2:B5 E ns P kb w1 k o val e w2):B5 E ns P kb w k o val e w2:=by
 rcases h2 with ⟨rfl,h3,h4⟩|⟨a,k',rfl,h3,h4⟩
 ·exact .inl ⟨rfl,h3,(Ap.of_below hb).trans h4.out fun _ _ h=>h⟩
 ·have hs:=hb.size
  have hf:Ap P w w2:=(Ap.of_below hb).trans h4.out.2.1 fun _ _ h=>h
  exact .inr ⟨a,k',rfl,h3,h4.out.1.mono (fun b hu=>hu.elim .inl fun h=>.inr ⟨by omega,h.2⟩) (Cz hP hf.size),hf,h4.out.2.2⟩
theorem B5.pure {α:Type}{o:Option (α×Kd)}{val:α->Value}{a:α}(h:Bg E ns P w kb k) (ho:o=some (a,k)):B5 E ns P kb w k o val (.returned (val a)) w:=
 .inr ⟨a,k,rfl,ho,h.mono (fun _ h=>.inl h) (fun b hb=>hb.elim (h.2.2 b) fun h=>h.2),Ap.refl _ _,Int.le_refl _⟩
def numbered (k:Kd) (n p:Int):Kd:={ k with net:={ k.net with nums:=k.net.nums++[n] },nums:=fun m=>if m=n then some p else k.nums m }
theorem Jy {n p:Int}(h:k.nums n=some p):Em.number n k=some (p,k):=by
 show (match k.nums n with|some p=>(Pure.pure p:Em.M Int)|none=>_) k=_
 rw[h];rfl
theorem Iv {n:Int}(h:k.nums n=none) (h2:Em.made 1 k.net.nums.length 0 0 k=none):Em.number n k=none:=by
 show (match k.nums n with|some p=>(Pure.pure p:Em.M Int)|none=>_) k=_
 rw[h]
 exact AD h2
theorem Iu {n p:Int}{k1:Kd}(h:k.nums n=none) (h2:Em.made 1 k.net.nums.length 0 0 k=some (p,k1)):Em.number n k=some (p,numbered k1 n p):=by
 show (match k.nums n with|some p=>(Pure.pure p:Em.M Int)|none=>_) k=_
 rw[h]
 exact bind_some h2
theorem LK {c a b d p:Int}{k1:Kd}(h:Em.made c a b d k=some (p,k1)):k1.net.nums=k.net.nums/\k1.net.code.length=k.net.code.length+1/\k1.net.nums.length=k.net.nums.length/\k1.nums=k.nums/\k1.vars=k.vars:=by
 by_cases hc:4000≤k.net.code.length
 ·rw[LJ hc] at h;exact absurd h (by simp)
 ·rw[LI (by omega)] at h
  injection h with h
  injection h with _ h
  subst h
  exact ⟨rfl,by simp[added,AL],rfl,rfl,rfl⟩
theorem GV.numbered {n p:Int}(h:GV E ns k) (hx:Cq n) (hl:k.net.nums.length<k.net.code.length):GV E ns (numbered k n p):=
 ⟨h.len,h.pot,h.code,h.keeps,h.ins,h.outs,by simp[Ew.numbered];omega,h.e,h.nf,fun y hy=>by
  rcases List.mem_append.1 hy with h'|h'
  ·exact h.nn y h'
  ·rw[List.mem_singleton.1 h'];exact hx,h.vf,h.out⟩
theorem VU:Maps.Keyed Tryz.prog 2:=Maps.int_keyed Tryz.underlying2
theorem Ax {n:Int}(h:Bg E ns P w kb k) (hE:E<1000000) (hn:Cq n) :
    Calls Tryz.prog 235 #[.pointer (some ⟨kb,0,none⟩),.int .i64 n] w (B5 E ns P kb w k (Em.number n k) (Value.int .i64)):=by
 obtain ⟨⟨c,hc⟩,hF,hlt⟩:=h
 have c8:=hc.cell 8 (u:=.map (some c.mn)) rfl
 obtain ⟨f,hm,hf⟩:=hc.hn
 have hlk:=hm.look_ok VU Tryz.underlying59 (NS w) (Maps.keyOf_int_mk Tryz.underlying2 hn.wf)
 rw[hf n] at hlk
 cases hkn:k.nums n with
 | some p=>
  rw[hkn] at hlk
  have hlk':(Instr.lookup 59 (.map (some c.mn)) (.int .i64 n) true).run Tryz.prog w=.ok (.tuple #[.int .i64 p,.bool true]) w:=hlk
  have HC:Hid (Bg E ns P w kb k/\_):=⟨⟨⟨c,hc⟩,hF,hlt⟩,hkn⟩
  clear hc hF hlt hm hf hlk hkn
  go_enter Tryz.func235,Tryz.ntmps235
  go_wp2_with fail
  go_ret
  exact B5.pure HC.out.1 (Jy HC.out.2)
 | none=>
  rw[hkn] at hlk
  have hlk':(Instr.lookup 59 (.map (some c.mn)) (.int .i64 n) true).run Tryz.prog w=.ok (.tuple #[.int .i64 0,.bool false]) w:=hlk
  have hr:w.ownsRow 0 2 1 (c.v 5) k.net.nums.length (k.net.nums.map (Value.int .i64)):=hc.row 5 (by omega) (by omega)
  obtain ⟨ao,cap,e1⟩:=AH hr
  have c5:=hc.cell 5 (u:=c.v 5) rfl
  rw[e1] at c5
  have hmade:=C0 1 (k.net.nums.length:Int) 0 0 ⟨⟨c,hc⟩,hF,hlt⟩ hE
  have HK:Hid (k.nums n=none/\GV E ns k/\∀b,P b->b<w.heap.size):=⟨hkn,hF,hlt⟩
  obtain ⟨i0,hi,hz0,hz1,hz2⟩:=info_parts VS
  clear hc hF hlt hm hf hlk hkn hr e1
  go_enter Tryz.func235,Tryz.ntmps235
  go_upto_region 4 with (go_at_call 233;refine hmade.mono ?_;rintro e w1 (⟨rfl,h0,h1⟩|⟨p,k1,rfl,h0,h1⟩);(· exact ⟨rfl,.inl ⟨rfl,Iv HK.out.1 h0.out,h1⟩⟩))
  clear c8 c5 hlk' hmade
  obtain ⟨⟨⟨c1,hc1⟩,hF1,hlt1⟩,hfr1,hpl1⟩:=h1.out
  obtain ⟨m1,m2,m3,m4,m5⟩:=LK h0.out
  have hr:w1.ownsRow 0 2 1 (c1.v 5) k1.net.nums.length (k1.net.nums.map (Value.int .i64)):=hc1.row 5 (by omega) (by omega)
  obtain ⟨ao1,cap1,e1⟩:=AH hr
  have c5:=hc1.cell 5 (u:=c1.v 5) rfl
  rw[e1] at c5 hr
  obtain ⟨m,hm⟩:∃m,m=k1.net.nums.length:=⟨_,rfl⟩
  have hm4:m≤4000:=by have:=hF1.nums;have:=hF1.code;omega
  rw[<-hm] at c5 hr
  have lkb:=AB hc1.hk
  have HK1:Hid (w1.heap[kb]?=some (.cells (c1.cells k1.net.places).toArray 168 (0,0))/\∀g,(Value.slice ao1 m cap1).ownBlock=some g->g≠kb):=⟨hc1.hk,fun g hg e=>by
   have h1:=hc1.pr 5 g (by omega) (by omega) (by rw[e1,<-hm];exact hg)
   rw[e,hc1.p0.2] at h1;exact absurd h1.2 (by omega)⟩
  have HC1:Hid (_/\c1.v 5=.slice ao1 m cap1/\_/\_/\_/\_/\k1.net.nums.length<k1.net.code.length/\k1.nums n=none):=⟨hc1,by rw[hm];exact e1,hF1,hfr1,hpl1,hm,by have:=HK.out.2.1.nums;omega,by rw[m4];exact HK.out.1⟩
  clear hc1 hF1 hlt1 hfr1 hpl1 e1 hm m1 m2 m3 m4 m5
  go_upto_region 5 with (at_builtin;refine wpList_append_own_at _ rfl (.tmp 32) (.tmp 34) 22 rfl 0 2 i0 _ 1 8 Tryz.underlying22 hi hz0 hz1 hz2 rfl (by decide) _ _ _ rfl (hr.alloc _) ⟨w1.heap.size,0,none⟩ 1 1 [.int .i64 n] rfl rfl (Bu _ _ _) (by intro u hu;simp at hu;subst hu;rfl) (by unfold maxLen;omega) (by omega) (by simp) ?_;intro v5 w5 hown5 hgrow _ hat;obtain ⟨a5,m5,e5⟩:=AH hown5;subst e5;have hk5:w5.heap[kb]?=some (.cells (c1.cells k1.net.places).toArray 168 (0,0)):=by { rw[hgrow.block kb (by simp;omega) (fun e=>(HK1.out.2 kb e.symm) rfl),BX HK1.out.1] };have d1:=AA hk5 5 (u:=c1.v 5) rfl;have f1:=AF hk5 5)
  obtain ⟨hC1,e1,hF1,hfr1,hpl1,hm,hlc,hn1⟩:=HC1.out
  obtain ⟨g1,g2⟩:=hC1.grow (i:=5) (by omega) (by omega) (w0:=w1.alloc (.cells #[.int .i64 n] 2)) (n5:={ k1.net with nums:=k1.net.nums++[n] }) (AC _ _) (new:=[.int .i64 n]) (by show World.ownsRow _ _ _ _ _ (k1.net.nums.length+1) _;rw[<-hm];exact hown5) (by rw[e1];exact hgrow) (by rw[e1];exact hat) rfl (fun j hj=>by unfold GG Fc;split<;>first|exact absurd rfl hj|exact ⟨rfl,rfl⟩) ⟨by simp[GG],by simp[Fc]⟩
  obtain ⟨X,hX⟩:∃X,X=w5.setCell ⟨kb,5,none⟩ (.slice a5 (m+1) m5):=⟨_,rfl⟩
  rw[<-hX] at g1 g2 ⊢
  obtain ⟨f,hmX,hfX⟩:=g1.hn
  have x8:=g1.cell 8 (u:=.map (some c1.mn)) rfl
  have hnn:c1.nn≤k1.net.nums.length:=hC1.nn
  obtain ⟨w6,hrun,hm6,hg6⟩:=hmX.put VU Tryz.underlying59 (by show c1.nn<maxLen;unfold maxLen;omega) (Maps.keyOf_int_mk Tryz.underlying2 hn.wf) (.int .i64 p)
  have hrun':(Instr.mapUpdate 59 (.map (some c1.mn)) (.int .i64 n) (.int .i64 p)).run Tryz.prog X=.ok () w6:=hrun
  have hfn:f (.int .i64 n)=none:=by rw[hfX n];show (k1.nums n).map _=_;rw[hn1];rfl
  rw[hfn] at hm6
  obtain ⟨g3,g4⟩:=g1.setN (nums':=fun m=>if m=n then some p else k1.nums m) hm6 (fun x=>by
   by_cases hxn:x=n
   ·rw[hxn,Gm.Hd _ (by trivial),if_pos rfl];rfl
   ·rw[Gm.F4 _ _ (by intro e;injection e with _ e;exact hxn e),if_neg hxn];exact hfX x) hg6 (by simp;exact Nat.le_trans hnn (Nat.le_refl _))
  have hU:∀b,Up (Up P w w1) w1 X b->Up P w w6 b:=fun b hb=>Up.size g4.size b (Up.up hfr1.size g2.size b hb)
  have hfr6:Ap P w w6:=(hfr1.up g2).trans g4 fun b hb hq=>by
   rcases hq with (hq|hq)|hq
   ·exact hq
   ·omega
   ·have:=hfr1.size;omega
  have HF:Hid (B5 E ns P kb w k (Em.number n k) (Value.int .i64) (.returned (.int .i64 p)) w6):=.inr ⟨p,numbered k1 n p,rfl,Iu HK.out.1 h0.out,⟨⟨_,g3.mono hU⟩,hF1.numbered hn hlc,Cz HK.out.2.2 hfr6.size⟩,hfr6,hpl1⟩
  clear hX g1 g2 hmX hfX hrun hm6 hg6 hfn g3 g4 hU hfr6 hC1 e1 hF1 hfr1 hpl1 hm hlc hn1 hnn hown5 hgrow hat hk5 d1 f1 c5 hr h0 h1
  go_wp2_with fail
  go_ret
  exact HF.out
end
end Ew
end
section
open Go.RowKit Px
namespace Ew
open Px.Em (Kd Vr)
open Nx (Nt Sp)
section
variable {P:Nat->Prop}{w:World}{kb E:Nat}{ns:List AW}{k:Kd}
theorem Lg {a b:Int}(h:a=-1\/b=-1):Em.Hw a b k=some (-1,k):=by unfold Em.Hw;rw[if_pos h];rfl
theorem WM {a b:Int}(ha:a≠-1) (hb:b≠-1):Em.Hw a b k=Em.made 15 a b 0 k:=by unfold Em.Hw;rw[if_neg (by rintro (h|h);exact ha h;exact hb h)]
theorem XP {a b:Int}(h:a=-1):Em.IR a b k=some (b,k):=by unfold Em.IR;rw[if_pos h];rfl
theorem Us {a b:Int}(ha:a≠-1) (h:b=-1):Em.IR a b k=some (a,k):=by unfold Em.IR;rw[if_neg ha,if_pos h];rfl
theorem XO {a b:Int}(ha:a≠-1) (hb:b≠-1):Em.IR a b k=Em.made 16 a b 0 k:=by unfold Em.IR;rw[if_neg ha,if_neg hb]
theorem WH {a b:Int}(h:b=-1):Em.BO a b k=some (a,k):=by unfold Em.BO;rw[if_pos h];rfl
theorem Oo {a b:Int}(hb:b≠-1) (h:a=-1\/a=b):Em.BO a b k=some (-1,k):=by unfold Em.BO;rw[if_neg hb,if_pos h];rfl
theorem YE {a b:Int}(hb:b≠-1) (ha:a≠-1) (hab:a≠b):Em.BO a b k=Em.made 13 b a 0 k:=by unfold Em.BO;rw[if_neg hb,if_neg (by rintro (h|h);exact ha h;exact hab h)]
theorem Hv (a b:Int) (h:Bg E ns P w kb k) (hE:E<1000000) :
    Calls Tryz.prog 260 #[.pointer (some ⟨kb,0,none⟩),.int .i64 a,.int .i64 b] w (B5 E ns P kb w k (Em.Hw a b k) (Value.int .i64)):=by
 by_cases ha:a=-1
 ·rw[Lg (.inl ha)]
  have HF:Hid (B5 E ns P kb w k (some (-1,k)) (Value.int .i64) (.returned (.int .i64 (-1))) w):=B5.pure h rfl
  have t:(a == -1)=true:=by simpa using ha
  clear ha h
  go_enter Tryz.func260,Tryz.ntmps260
  go_wp2_with fail
  go_ret
  exact HF.out
 ·by_cases hb:b=-1
  ·rw[Lg (.inr hb)]
   have HF:Hid (B5 E ns P kb w k (some (-1,k)) (Value.int .i64) (.returned (.int .i64 (-1))) w):=B5.pure h rfl
   have t:(a == -1)=false:=by simpa using ha
   have t2:(b == -1)=true:=by simpa using hb
   clear ha hb h
   go_enter Tryz.func260,Tryz.ntmps260
   go_wp2_with fail
   go_ret
   exact HF.out
  ·rw[WM ha hb]
   have hmade:=C0 15 a b 0 h hE
   have t:(a == -1)=false:=by simpa using ha
   have t2:(b == -1)=false:=by simpa using hb
   clear ha hb h
   go_enter Tryz.func260,Tryz.ntmps260
   go_wp2_with (go_at_call 233;refine hmade.mono ?_;rintro e w1 (⟨rfl,h0,h1⟩|⟨p,k1,rfl,h0,h1⟩);(· exact ⟨rfl,.inl ⟨rfl,h0,h1⟩⟩))
   go_ret
   exact .inr ⟨p,k1,rfl,h0,h1⟩
theorem Fe (a b:Int) (h:Bg E ns P w kb k) (hE:E<1000000) :
    Calls Tryz.prog 239 #[.pointer (some ⟨kb,0,none⟩),.int .i64 a,.int .i64 b] w (B5 E ns P kb w k (Em.IR a b k) (Value.int .i64)):=by
 by_cases ha:a=-1
 ·rw[XP ha]
  have HF:Hid (B5 E ns P kb w k (some (b,k)) (Value.int .i64) (.returned (.int .i64 b)) w):=B5.pure h rfl
  have t:(a == -1)=true:=by simpa using ha
  clear ha h
  go_enter Tryz.func239,Tryz.ntmps239
  go_wp2_with fail
  go_ret
  exact HF.out
 ·by_cases hb:b=-1
  ·rw[Us ha hb]
   have HF:Hid (B5 E ns P kb w k (some (a,k)) (Value.int .i64) (.returned (.int .i64 a)) w):=B5.pure h rfl
   have t:(a == -1)=false:=by simpa using ha
   have t2:(b == -1)=true:=by simpa using hb
   clear ha hb h
   go_enter Tryz.func239,Tryz.ntmps239
   go_wp2_with fail
   go_ret
   exact HF.out
  ·rw[XO ha hb]
   have hmade:=C0 16 a b 0 h hE
   have t:(a == -1)=false:=by simpa using ha
   have t2:(b == -1)=false:=by simpa using hb
   clear ha hb h
   go_enter Tryz.func239,Tryz.ntmps239
   go_wp2_with (go_at_call 233;refine hmade.mono ?_;rintro e w1 (⟨rfl,h0,h1⟩|⟨p,k1,rfl,h0,h1⟩);(· exact ⟨rfl,.inl ⟨rfl,h0,h1⟩⟩))
   go_ret
   exact .inr ⟨p,k1,rfl,h0,h1⟩
theorem FF (a b:Int) (h:Bg E ns P w kb k) (hE:E<1000000) :
    Calls Tryz.prog 232 #[.pointer (some ⟨kb,0,none⟩),.int .i64 a,.int .i64 b] w (B5 E ns P kb w k (Em.BO a b k) (Value.int .i64)):=by
 by_cases hb:b=-1
 ·rw[WH hb]
  have HF:Hid (B5 E ns P kb w k (some (a,k)) (Value.int .i64) (.returned (.int .i64 a)) w):=B5.pure h rfl
  have t:(b == -1)=true:=by simpa using hb
  clear hb h
  go_enter Tryz.func232,Tryz.ntmps232
  go_wp2_with fail
  go_ret
  exact HF.out
 ·by_cases ha:a=-1
  ·rw[Oo hb (.inl ha)]
   have HF:Hid (B5 E ns P kb w k (some (-1,k)) (Value.int .i64) (.returned (.int .i64 (-1))) w):=B5.pure h rfl
   have t:(b == -1)=false:=by simpa using hb
   have t2:(a == -1)=true:=by simpa using ha
   clear ha hb h
   go_enter Tryz.func232,Tryz.ntmps232
   go_wp2_with fail
   go_ret
   exact HF.out
  ·by_cases hab:a=b
   ·rw[Oo hb (.inr hab)]
    have HF:Hid (B5 E ns P kb w k (some (-1,k)) (Value.int .i64) (.returned (.int .i64 (-1))) w):=B5.pure h rfl
    have t:(b == -1)=false:=by simpa using hb
    have t2:(a == -1)=false:=by simpa using ha
    have t3:(a==b)=true:=by simpa using hab
    clear ha hb h hab
    go_enter Tryz.func232,Tryz.ntmps232
    go_wp2_with fail
    go_ret
    exact HF.out
   ·rw[YE hb ha hab]
    have hmade:=C0 13 b a 0 h hE
    have t:(b == -1)=false:=by simpa using hb
    have t2:(a == -1)=false:=by simpa using ha
    have t3:(a==b)=false:=by simpa using hab
    clear ha hb h hab
    go_enter Tryz.func232,Tryz.ntmps232
    go_wp2_with (go_at_call 233;refine hmade.mono ?_;rintro e w1 (⟨rfl,h0,h1⟩|⟨p,k1,rfl,h0,h1⟩);(· exact ⟨rfl,.inl ⟨rfl,h0,h1⟩⟩))
    go_ret
    exact .inr ⟨p,k1,rfl,h0,h1⟩
theorem MF (dst so from_:Int) (h:Bg E ns P w kb k) :
    Calls Tryz.prog 242 #[.pointer (some ⟨kb,0,none⟩),.int .i64 dst,.int .i64 so,.int .i64 from_] w (B5 E ns P kb w k (Em.put dst so from_ k) (fun _=>.tuple #[])):=by
 by_cases hcl:4000≤k.net.code.length
 ·have hadd:=Mq ⟨17,dst,so,from_,dst⟩ h hcl
  clear h
  go_enter Tryz.func242,Tryz.ntmps242
  go_wp2_with (go_at_call 150;refine hadd.mono ?_;rintro e w2 ⟨rfl,h2⟩)
  exact ⟨rfl,.inl ⟨rfl,if_pos hcl,h2⟩⟩
 ·have hadd:=Ql (E:=E) ⟨17,dst,so,from_,dst⟩ h (by omega) h.2.1.e (by omega)
  clear h
  go_enter Tryz.func242,Tryz.ntmps242
  go_wp2_with (go_at_call 150;refine hadd.mono ?_;rintro e w2 ⟨rfl,h2⟩)
  go_end0
  exact .inr ⟨(),_,rfl,if_neg hcl,h2.out.1,h2.out.2,Int.le_refl _⟩
theorem IY (so p:Int) (h:Bg E ns P w kb k) (hE:E<1000000) :
    Calls Tryz.prog 237 #[.pointer (some ⟨kb,0,none⟩),.int .i64 so,.int .i64 p] w (B5 E ns P kb w k (Em.given so p k) (Value.int .i64)):=by
 have hnum:=Ax (n:=0) h hE Cq.zero
 have HP:Hid _:=h.2.2
 clear h
 go_enter Tryz.func237,Tryz.ntmps237
 go_wp2_with (first
  | (go_at_call 235;refine hnum.mono ?_;rintro e w1 (⟨rfl,h0,h1⟩|⟨z,k1,rfl,h0,h1⟩);(· exact ⟨rfl,.inl ⟨rfl,AD h0.out,h1⟩⟩);have hmade:=C0 17 so p z h1.out.1 hE;clear hnum)
  | (go_at_call 233;refine hmade.mono ?_;rintro e w2 (⟨rfl,h2,h3⟩|⟨q,k2,rfl,h2,h3⟩);(· exact ⟨rfl,B5.up HP.out h1.out.2.1 h1.out.2.2 (bind_some h0.out) (.inl ⟨rfl,h2,h3⟩)⟩)))
 go_ret
 exact B5.up HP.out h1.out.2.1 h1.out.2.2 (bind_some h0.out) (.inr ⟨q,k2,rfl,h2,h3⟩)
theorem E8 (i:Nat) (hi:i≤1000000):Calls Tryz.prog 199 #[.int .i64 (i:Int)] w fun e w'=>e=.returned (.int .i64 ((i:Int)+1))/\w'=w:=by
 go_enter Tryz.func199,Tryz.ntmps199
 go_wp2_with fail
 go_ret
 exact ⟨rfl,rfl⟩
theorem Q9 {i:Nat}(hi:i≤1000000):Cq ((i:Int)+1):=by unfold Cq;omega
theorem MU (p:Int) (i:Nat) (hi:i≤1000000) (h:Bg E ns P w kb k) (hE:E<1000000) :
    Calls Tryz.prog 204 #[.pointer (some ⟨kb,0,none⟩),.int .i64 p,.int .i64 (i:Int)] w (B5 E ns P kb w k (Em.is p i k) (Value.int .i64)):=by
 have hnum:=Ax (n:=(i:Int)+1) h hE (Q9 hi)
 have hno:=E8 (w:=w) i hi
 have HP:Hid _:=h.2.2
 clear h
 go_enter Tryz.func204,Tryz.ntmps204
 go_wp2_with (first
  | (go_at_call 199;refine hno.mono ?_;rintro e w0 ⟨rfl,h00⟩;obtain rfl:=h00.symm;clear hno)
  | (go_at_call 235;refine hnum.mono ?_;rintro e w1 (⟨rfl,h0,h1⟩|⟨z,k1,rfl,h0,h1⟩);(· exact ⟨rfl,.inl ⟨rfl,AD h0.out,h1⟩⟩);have hmade:=C0 11 p z 0 h1.out.1 hE;clear hnum)
  | (go_at_call 233;refine hmade.mono ?_;rintro e w2 (⟨rfl,h2,h3⟩|⟨q,k2,rfl,h2,h3⟩);(· exact ⟨rfl,B5.up HP.out h1.out.2.1 h1.out.2.2 (bind_some h0.out) (.inl ⟨rfl,h2,h3⟩)⟩)))
 go_ret
 exact B5.up HP.out h1.out.2.1 h1.out.2.2 (bind_some h0.out) (.inr ⟨q,k2,rfl,h2,h3⟩)
end
end Ew
end
section
open Go.RowKit Px
def Gk:E->Prop
 | .nil=>True
 | .node _ _ a l r=>a.name.length≤maxLen/\Cq a.num/\Gk l/\Gk r
def Fs (ns:List AW) (l:List Cx):Prop:=∀a∈l,a.name∈ns/\a.name.length≤maxLen/\Gk a.e
structure cA {σ:Type}(ns:List AW) (s:Ah σ):Prop where
 en:Fs ns s.enter
 du:Fs ns s.during
 le:Fs ns s.leave
 re:Gk s.rests
 wy:∀y∈s.ways,Gk y.cond/\Fs ns y.sets
 wl:s.ways.length≤maxLen
 il:s.regions.length≤maxLen
def GT (ns:List AW):(k:Nat)->List (St k)->Prop
 | 0=>fun _=>True
 | k+1=>fun L=>∀s∈(show List (Ah (St k)) from L),cA ns s/\∀r∈s.regions,GT ns k r
def Im:(k:Nat)->List (St k)->Prop
 | 0=>fun _=>False
 | k+1=>fun L=>Cy (ρ:=St k) L=1/\YQ (AU (ρ:=St k) L)/\(∀s∈(show List (Ah (St k)) from L),∀y∈s.ways,∃t,DQ (AU (ρ:=St k) L) y.to=some t)/\List.length L≤1000000/\∀s∈(show List (Ah (St k)) from L),s.name.length≤maxLen/\s.ways.length≤1000000/\s.regions.length≤1000000/\(∀y∈s.ways,y.to.length≤maxLen)/\∀r∈s.regions,Im k r
structure WX (c:CO):Prop where
 vl:c.vars.length≤1000000
 vn:∀v∈c.vars,v.name.length≤maxLen
 rl:c.regions.length≤maxLen
 st:∀L∈c.regions,GT (Ai c.vars) 6 L
end
section
open Go.RowKit Px
namespace Ew
open Px.Em (Kd Vr)
open Nx (Nt Sp)
section
variable {P A:Nat->Prop}{w:World}{kb E:Nat}{ns:List AW}{k:Kd}
theorem We (w:World):(zeroValue 218).run Tryz.prog w=.ok (Rf aB) w:=by kernel_rfl
theorem CM.lookV {c:Cv}(h:CM P w kb k c) {s:AW}(hs:s.length≤maxLen):(Instr.lookup 166 (.map (some c.mv)) (sv s) false).run Tryz.prog w=.ok (Rf (k.vars s)) w:=by
 obtain ⟨f,hm,hf⟩:=h.hv
 rw[hm.look G6 Tryz.underlying166 (We w) (UQ hs),hf s]
def wased (k:Kd) (s:AW) (v:Vr) (p:Int):Kd:={ k with vars:=fun t=>if t=s then ⟨v.now,p,v.first⟩ else k.vars t }
theorem Qt {s:AW}(h:(k.vars s).was≠-1):Em.Gq s k=some ((k.vars s).was,k):=by
 show (if (k.vars s).was=-1 then _ else (Pure.pure (k.vars s).was:Em.M Int)) k=_
 rw[if_neg h];rfl
theorem Qs {s:AW}(h:(k.vars s).was=-1):Em.Gq s k=some (k.net.places,wased (AX (AL k (k.vars s).first) k.net.places) s (k.vars s) k.net.places):=by
 show (if (k.vars s).was=-1 then _ else (Pure.pure (k.vars s).was:Em.M Int)) k=_
 rw[if_pos h];rfl
theorem ON {α:Type}{p q:α->Bool}(hpq:∀a,q a=true->p a=true) {s:α}(hp:p s=true) (hq:q s=false):∀{l:List α},s∈l->(l.filter q).length+1≤(l.filter p).length:=by
 intro l
 induction l with
 | nil=>intro h;simp at h
 | cons a r ih=>
  intro h
  have hr:(r.filter q).length≤(r.filter p).length:=by
   clear ih h
   induction r with
   | nil=>simp
   | cons b r ih=>
    rw[List.filter_cons,List.filter_cons]
    by_cases hb:q b=true
    ·rw[if_pos hb,if_pos (hpq b hb)];simp;omega
    ·rw[if_neg hb];split<;>first|omega|(simp;omega)
  rw[List.filter_cons,List.filter_cons]
  rcases List.mem_cons.1 h with rfl|h
  ·rw[hq,if_neg (by simp),if_pos hp];simp;omega
  ·have:=ih h
   by_cases hb:q a=true
   ·rw[if_pos hb,if_pos (hpq a hb)];simp;omega
   ·rw[if_neg hb];split<;>first|omega|(simp;omega)
theorem GV.wased {s:AW}{p:Int}{v:Vr}(h:GV (E+1) ns k) (hE:E≤1000000) (hw:(k.vars s).was=-1) (hp:p≠-1) (hv:Cq v.first):GV E ns (Ew.wased k s v p):=by
 have hs:s∈ns:=by
  by_cases hs:s∈ns
  ·exact hs
  ·exact absurd hw (h.out s hs)
 have hl:J0 ns (Ew.wased k s v p)+1≤J0 ns k:=ON (s:=s) (fun a ha=>by
  simp only[Ew.wased] at ha
  by_cases has:a=s
  ·subst has;simpa using hw
  ·simpa [has] using ha) (by simpa using hw) (by simp[Ew.wased];exact hp) hs
 have:=h.pot
 refine ⟨h.len,?_,h.code,h.keeps,h.ins,h.outs,h.nums,hE,h.nf,h.nn,fun t=>?_,fun t ht=>?_⟩
 ·show k.net.first.length+_≤k.net.code.length+E;omega
 ·show Cq (if t=s then (⟨v.now,p,v.first⟩:Vr) else k.vars t).first
  split
  ·exact hv
  ·exact h.vf t
 ·show (if t=s then (⟨v.now,p,v.first⟩:Vr) else k.vars t).was≠-1
  split
  ·exact hp
  ·exact h.out t ht
theorem Wj {s:AW}(hs:s.length≤maxLen) (h:Bg E ns P w kb k) (hE:E<1000000) :
    Calls Tryz.prog 258 #[.pointer (some ⟨kb,0,none⟩),sv s] w (B5 E ns P kb w k (Em.Gq s k) (Value.int .i64)):=by
 obtain ⟨⟨c,hc⟩,hF,hlt⟩:=h
 have c7:=hc.cell 7 (u:=.map (some c.mv)) rfl
 have hlk:=hc.lookV hs
 have hfirst:=hF.vf s
 obtain ⟨W,hW⟩:∃W,W=w.alloc (.cells #[.int .i64 (k.vars s).now,.int .i64 (k.vars s).was,.int .i64 (k.vars s).first] 218):=⟨_,rfl⟩
 have hbw:Below w.heap.size w W:=by rw[hW];exact AC _ _
 have hkq:W.heap[w.heap.size]?=some (.cells #[.int .i64 (k.vars s).now,.int .i64 (k.vars s).was,.int .i64 (k.vars s).first] 218 (0,0)):=by rw[hW];exact Aa w _
 obtain ⟨q,hq⟩:∃q,q=w.heap.size:=⟨_,rfl⟩
 rw[<-hq] at hkq
 have hCW:Bg E ns P W kb k:=Bg.below ⟨⟨c,hc⟩,hF,hlt⟩ hbw
 have HH:Hid (_/\_/\_/\_/\_/\_/\¬P q):=⟨hCW,hbw,hlt,hq.symm,hkq,hs,fun hp=>by have:=hlt q hp;omega⟩
 obtain ⟨vn,vw,vf,hv⟩:∃vn vw vf,k.vars s=⟨vn,vw,vf⟩:=⟨_,_,_,rfl⟩
 rw[hv] at hW hkq HH hfirst
 have hlk':(Instr.lookup 166 (.map (some c.mv)) (sv s) false).run Tryz.prog w=.ok (.agg #[.int .i64 vn,.int .i64 vw,.int .i64 vf]) w:=by rw[hlk,hv];rfl
 have x0:=AA hkq 0 (u:=.int .i64 vn) rfl
 have x1:=AA hkq 1 (u:=.int .i64 vw) rfl
 have x2:=AA hkq 2 (u:=.int .i64 vf) rfl
 have HV:Hid _:=hv
 obtain ⟨S,hS⟩:∃S,S=sv s:=⟨_,rfl⟩
 have HS:Hid _:=hS
 rw[<-hS] at hlk' ⊢
 by_cases hw:vw=-1
 ·have hkept:=KB (x:=vf) hCW hE hfirst
  obtain ⟨p,hp⟩:∃p,p=k.net.places:=⟨_,rfl⟩
  have HP:Hid (_/\p≠-1/\_):=⟨hp,by have:=hF.len;omega,hF.len⟩
  rw[<-hp] at hkept
  have t:(vw == -1)=true:=by simpa using hw
  have HW:Hid _:=hw
  clear hc hF hlt hlk hCW hbw hkq hs hv hS hw hp
  go_enter Tryz.func258,Tryz.ntmps258
  go_upto_region 2 with fail
  rw[<-hW,<-hq]
  clear hW hq c7 hlk'
  go_upto_region 4 with (go_at_call 146;refine hkept.mono ?_;rintro e w1 ⟨rfl,h1⟩;have hk1:=h1.out.2.heap HH.out.2.2.2.2.1 HH.out.2.2.2.2.2.2;have d1:=AA hk1 1 (u:=.int .i64 vw) rfl;have f1:=AF hk1 1)
  obtain ⟨X,hX⟩:∃X,X=w1.setCell ⟨q,1,none⟩ (.int .i64 p):=⟨_,rfl⟩
  have hkx:X.heap[q]?=some (.cells #[.int .i64 vn,.int .i64 p,.int .i64 vf] 218 (0,0)):=by rw[hX];exact Am (l:=[.int .i64 vn,.int .i64 vw,.int .i64 vf]) hk1 1 _
  have hUq:¬Up P W w1 q:=fun hu=>hu.elim HH.out.2.2.2.2.2.2 fun h=>by have:=AB HH.out.2.2.2.2.1;omega
  have hkeep:AY (Up P W w1) (Up P W w1) w1 X:=fun b hb hl=>⟨hb,by rw[hX];exact Below.heap_setCell _ _ _ _ (fun e=>hUq (by have e:b=q:=e;rw[<-e];exact hb))⟩
  obtain ⟨⟨⟨c1,hc1⟩,hF1,hlt1⟩,hfr1⟩:=h1.out
  have hcX:=hc1.carry hkeep
  have hfX:Ap P w X:=by rw[hX];exact ((Ap.of_below HH.out.2.1).trans hfr1 fun _ _ h=>h).setCell (.inr (by rw[HH.out.2.2.2.1];exact Nat.le_refl _)) _
  have hsX:X.heap.size=w1.heap.size:=by rw[hX];simp[World.setCell]
  obtain ⟨f,hm,hf⟩:=hcX.hv
  have hmD:Gm.Mp Tryz.prog 9 X.drew c1.mv c1.nv f:=hm.keep rfl
  have hnv:c1.nv≤(AX (AL k vf) p).net.first.length:=hcX.nv
  obtain ⟨w6,hrun,hm6,hg6⟩:=hmD.put G6 Tryz.underlying166 (by have:=hF1.few;unfold maxLen;omega) (UQ HH.out.2.2.2.2.2.1) (Rf ⟨vn,p,vf⟩)
  have hfs:(f (.string s)).isSome=true:=by
   have:=hf s
   show _
   cases hfs:f (.string s) with
   | some v=>rfl
   | none=>
    rw[hfs] at this
    have h2:Rf aB=Rf (k.vars s):=this
    rw[HV.out,HW.out] at h2
    simp[Rf,aB] at h2
  rw[hfs,if_pos rfl] at hm6
  have hrun':(Instr.mapUpdate 166 (.map (some c1.mv)) S (.agg #[.int .i64 vn,.int .i64 p,.int .i64 vf])).run Tryz.prog X.drew=.ok () w6:=by rw[HS.out];exact hrun
  have hcD:CM (Up P W w1) X.drew kb (AX (AL k vf) p) c1:=hcX.carry fun b hb _=>⟨hb,rfl⟩
  obtain ⟨g3,g4⟩:=hcD.setV (vars':=(wased (AX (AL k vf) p) s (k.vars s) p).vars) hm6 (fun t=>by
   show ((Gm.put f _ _) _).getD _=Rf (if t=s then ⟨(k.vars s).now,p,(k.vars s).first⟩ else k.vars t)
   by_cases hts:t=s
   ·rw[hts,Gm.Hd _ (by trivial),if_pos rfl,HV.out];rfl
   ·rw[Gm.F4 _ _ (by intro e;injection e with e;exact hts e),if_neg hts];exact hf t) hg6 hnv
  have z7:=hcX.cell 7 (u:=.map (some c1.mv)) rfl
  have y0:=AA hkx 0 (u:=.int .i64 vn) rfl
  have y1:=AA hkx 1 (u:=.int .i64 p) rfl
  have y2:=AA hkx 2 (u:=.int .i64 vf) rfl
  have hqm:q≠c1.mv:=fun e=>hUq (e▸hc1.pv.1)
  have hk6:w6.heap[q]?=some (.cells #[.int .i64 vn,.int .i64 p,.int .i64 vf] 218 (0,0)):=by rw[hg6.block q (AB hkx) (fun e=>hqm (by injection e))];exact hkx
  have z1:=AA hk6 1 (u:=.int .i64 p) rfl
  have hs1:=HH.out.2.1.size
  have hfr6:Ap P w w6:=(hfX.drew).trans g4 fun b hb hq=>hq.elim id fun h=>absurd h.1 (by omega)
  have HF:Hid (B5 E ns P kb w k (Em.Gq s k) (Value.int .i64) (.returned (.int .i64 p)) w6):=by
   refine .inr ⟨p,wased (AX (AL k vf) p) s (k.vars s) p,rfl,?_,⟨⟨_,g3.mono fun b hb=>?_⟩,?_,Cz HH.out.2.2.1 hfr6.size⟩,hfr6,?_⟩
   ·have:=Qs (k:=k) (s:=s) (by rw[HV.out];exact HW.out)
    rw[<-HP.out.1,HV.out] at this
    rw[HV.out]
    exact this
   ·rcases hb with hb|hb
    ·exact .inl hb
    ·exact .inr ⟨by omega,by have h1:w1.heap.size≤w6.heap.size:=by { rw[<-hsX];exact g4.size };omega⟩
   ·exact hF1.wased (by omega) (by show (k.vars s).was=-1;rw[HV.out];exact HW.out) HP.out.2.1 (by rw[HV.out];exact hfirst)
   ·show k.net.places≤k.net.places+1;omega
  rw[<-hX]
  clear hX hkx hUq hkeep hc1 hF1 hlt1 hfr1 hcX hfX hsX hm hf hmD hnv hrun hm6 hg6 hfs hcD g3 g4 hk6 hs1 hfr6 h1 hk1 d1 f1 hkept
  go_region
  all_goals
   go_wp2_with fail
   go_ret
   exact HF.out
 ·have t:(vw == -1)=false:=by simpa using hw
  have HF:Hid (B5 E ns P kb w k (Em.Gq s k) (Value.int .i64) (.returned (.int .i64 vw)) W):=B5.below hlt hbw (by
   have h1:=B5.pure (o:=Em.Gq s k) (val:=Value.int .i64) (a:=vw) hCW (by rw[Qt (by rw[hv];exact hw),hv])
   exact h1)
  clear hc hF hlt hlk hCW hbw hkq hs hv hS hw
  go_enter Tryz.func258,Tryz.ntmps258
  go_upto_region 2 with fail
  rw[<-hW,<-hq]
  clear hW hq c7 hlk'
  go_wp2_with fail
  go_ret
  exact HF.out
end
end Ew
end
section
open Go.RowKit Px
namespace Ew
open Px.Em (Kd Vr)
open Nx (Nt Sp)
section
variable {P A:Nat->Prop}{w:World}{kb E:Nat}{ns:List AW}{k:Kd}
theorem Jw {x:Int}(h:Bg E ns P w kb k) (hE:E<1000000) (hx:Cq x) :
    Calls Tryz.prog 145 #[.pointer (some ⟨kb,0,none⟩),.int .i64 x] w fun e w'=>e=.returned (.int .i64 k.net.places)/\Hid ((∃c,CM (Up P w w') w' kb (AL k x) c/\c.nv+1≤k.net.first.length+1)/\GV (E+1) ns (AL k x)/\(∀b,Up P w w' b->b<w'.heap.size)/\Ap P w w'):=by
 obtain ⟨⟨c,hc⟩,hF,hlt⟩:=h
 obtain ⟨i0,hi,hz0,hz1,hz2⟩:=info_parts VS
 have hr:w.ownsRow 0 2 1 (c.v 1) k.net.first.length (k.net.first.map (Value.int .i64)):=hc.row 1 (by omega) (by omega)
 obtain ⟨ao,cap,e1⟩:=AH hr
 have c1:=hc.cell 1 (u:=c.v 1) rfl
 have HC:Hid (_/\_/\_):=⟨hc,hF,e1⟩
 rw[e1] at c1 hr
 have hl:=hF.few
 have hp:0≤k.net.places/\k.net.places≤1004000:=by have:=hF.len;omega
 obtain ⟨p,hpp⟩:∃p,p=k.net.places:=⟨_,rfl⟩
 have HP:Hid _:=hpp
 rw[<-hpp] at hp
 have hkk:=hc.hk
 rw[<-hpp] at hkk
 rw[<-hpp]
 obtain ⟨n,hn⟩:∃n,n=k.net.first.length:=⟨_,rfl⟩
 have HN:Hid _:=hn
 rw[<-hn] at c1 hr hl
 obtain ⟨hp0,hp1⟩:=hp
 have lkb:=AB hkk
 have HK:Hid (w.heap[kb]?=some (.cells (c.cells p).toArray 168 (0,0))/\∀g,(Value.slice ao n cap).ownBlock=some g->g≠kb):=⟨hkk,fun g hg e=>by
  have h1:=hc.pr 1 g (by omega) (by omega) (by rw[e1,<-hn];exact hg)
  rw[e,hc.p0.2] at h1;exact absurd h1.2 (by omega)⟩
 have hs1:IntKind.i64.wrap (p+1)=p+1:=by rw[IntKind.wrap_i64];omega
 have hs2:IntKind.i64.wrap (p+1-1)=p:=by rw[IntKind.wrap_i64];omega
 clear hc hF e1 hpp hn hkk
 go_enter Tryz.func145,Tryz.ntmps145
 go_wp2_with (at_builtin;refine wpList_append_own_at _ rfl (.tmp 10) (.tmp 12) 22 rfl 0 2 i0 _ 1 8 Tryz.underlying22 hi hz0 hz1 hz2 rfl (by decide) _ _ _ rfl (hr.alloc _) ⟨w.heap.size,0,none⟩ 1 1 [.int .i64 x] rfl rfl (Bu _ _ _) (by intro u hu;simp at hu;subst hu;rfl) (by unfold maxLen;omega) (by omega) (by simp) ?_;intro v5 w5 hown5 hgrow _ hat;obtain ⟨a5,m5,e5⟩:=AH hown5;subst e5;have hk5:w5.heap[kb]?=some (.cells (c.cells p).toArray 168 (0,0)):=by { rw[hgrow.block kb (by simp;omega) (fun e=>(HK.out.2 kb e.symm) rfl),BX HK.out.1] };have d0:=AA hk5 0 (u:=.int .i64 p) rfl;have d1:=AA hk5 1 (u:=c.v 1) rfl;have f0:=AF hk5 0;have f1:=AF hk5 1)
 go_ret
 refine ⟨rfl,?_⟩
 obtain ⟨hC,hF,e1⟩:=HC.out
 rw[<-HN.out] at e1
 obtain ⟨g1,g2⟩:=hC.grow (i:=1) (by omega) (by omega) (w0:=w.alloc (.cells #[.int .i64 x] 2)) (n5:={ k.net with first:=k.net.first++[x] }) (AC _ _) (new:=[.int .i64 x]) (by show World.ownsRow _ _ _ _ _ (k.net.first.length+1) _;rw[<-HN.out];exact hown5) (by rw[e1];exact hgrow) (by rw[e1];exact hat) rfl (fun j hj=>by unfold GG Fc;split<;>first|exact absurd rfl hj|exact ⟨rfl,rfl⟩) ⟨by simp[GG],by simp[Fc]⟩
 obtain ⟨g3,g4⟩:=g1.setP (p+1)
 have e:AL k x={ ({ k with net:={ k.net with first:=k.net.first++[x] } }:Kd) with net:={ ({ k with net:={ k.net with first:=k.net.first++[x] } }:Kd).net with places:=p+1 } }:=by rw[HP.out];rfl
 rw[<-e] at g3
 exact ⟨⟨_,g3.mono (Up.size g4.size),Nat.succ_le_succ hC.nv⟩,hF.place hE hx,Cz hlt (g2.trans g4 fun b hb hq=>hq.elim id fun h=>absurd h.1 (by omega)).size,g2.trans g4 fun b hb hq=>hq.elim id fun h=>absurd h.1 (by omega)⟩
theorem Se {x:Int}(h:Bg E ns P w kb k) (hE:E<1000000) (hx:Cq x) :
    Calls Tryz.prog 146 #[.pointer (some ⟨kb,0,none⟩),.int .i64 x] w fun e w'=>e=.returned (.int .i64 k.net.places)/\Hid ((∃c,CM (Up P w w') w' kb (AX (AL k x) k.net.places) c/\c.nv+1≤k.net.first.length+1)/\GV (E+1) ns (AX (AL k x) k.net.places)/\(∀b,Up P w w' b->b<w'.heap.size)/\Ap P w w'):=by
 have hcall:=Jw h hE hx
 have HH:Hid (GV E ns k/\∀b,P b->b<w.heap.size):=h.2
 obtain ⟨i0,hi,hz0,hz1,hz2⟩:=info_parts VR
 obtain ⟨p,hp⟩:∃p,p=k.net.places:=⟨_,rfl⟩
 rw[<-hp] at hcall ⊢
 clear h hp
 go_enter Tryz.func146,Tryz.ntmps146
 go_upto_region 2 with (go_at_call 145;refine hcall.mono ?_;rintro e w1 ⟨rfl,h1⟩)
 obtain ⟨⟨c,hc,hnv⟩,hF,hlt,hfr⟩:=h1.out
 have hr:w1.ownsRow 0 3 1 (c.v 4) (AL k x).net.keeps.length ((AL k x).net.keeps.map (Value.int .i64)):=hc.row 4 (by omega) (by omega)
 obtain ⟨ao,cap,e1⟩:=AH hr
 have c1:=hc.cell 4 (u:=c.v 4) rfl
 have HC:Hid (_/\_/\_/\_):=⟨hc,e1,hfr,hnv⟩
 rw[e1] at c1 hr
 have hl:=hF.few
 have hl2:=hF.keeps
 obtain ⟨n,hn⟩:∃n,n=(AL k x).net.keeps.length:=⟨_,rfl⟩
 have HN:Hid _:=hn
 rw[<-hn] at c1 hr hl2
 have hkk:=hc.hk
 have lkb:=AB hkk
 have HK:Hid (w1.heap[kb]?=some (.cells (c.cells (AL k x).net.places).toArray 168 (0,0))/\∀g,(Value.slice ao n cap).ownBlock=some g->g≠kb):=⟨hkk,fun g hg e=>by
  have h1:=hc.pr 4 g (by omega) (by omega) (by rw[e1,<-hn];exact hg)
  rw[e,hc.p0.2] at h1;exact absurd h1.2 (by omega)⟩
 have hn6:n≤1004000:=by omega
 clear hc hF e1 hn hkk hl hl2 hfr h1 hcall hnv
 go_wp2_with (at_builtin;refine wpList_append_own_at _ rfl (.tmp 14) (.tmp 16) 23 rfl 0 3 i0 _ 1 8 Tryz.underlying23 hi hz0 hz1 hz2 rfl (by decide) _ _ _ rfl (hr.alloc _) ⟨w1.heap.size,0,none⟩ 1 1 [.int .i64 p] rfl rfl (Bu _ _ _) (by intro u hu;simp at hu;subst hu;rfl) (by unfold maxLen;omega) (by omega) (by simp) ?_;intro v5 w5 hown5 hgrow _ hat;obtain ⟨a5,m5,e5⟩:=AH hown5;subst e5;have hk5:w5.heap[kb]?=some (.cells (c.cells (AL k x).net.places).toArray 168 (0,0)):=by { rw[hgrow.block kb (by simp;omega) (fun e=>(HK.out.2 kb e.symm) rfl),BX HK.out.1] };have d1:=AA hk5 4 (u:=c.v 4) rfl;have f1:=AF hk5 4)
 go_ret
 refine ⟨rfl,?_⟩
 obtain ⟨hC,e1,hfr,hnv⟩:=HC.out
 rw[<-HN.out] at e1
 obtain ⟨g1,g2⟩:=hC.grow (i:=4) (by omega) (by omega) (w0:=w1.alloc (.cells #[.int .i64 p] 3)) (n5:=(AX (AL k x) p).net) (AC _ _) (new:=[.int .i64 p]) (by show World.ownsRow _ _ _ _ _ ((AL k x).net.keeps.length+1) _;rw[<-HN.out];exact hown5) (by rw[e1];exact hgrow) (by rw[e1];exact hat) rfl (fun j hj=>by unfold GG Fc;split<;>first|exact absurd rfl hj|exact ⟨rfl,rfl⟩) ⟨by simp[GG,AX],by simp[Fc,AX]⟩
 exact ⟨⟨_,g1.mono (Up.up hfr.size g2.size),hnv⟩,HH.out.1.kept hE hx,Cz HH.out.2 (hfr.up g2).size,hfr.up g2⟩
theorem YU {l:List Ac}{v:Value}(h:EL A w l v) :
    ∃ad g cap,v=.slice ad l.length cap/\l.length≤maxLen/\(0<l.length->ad=some ⟨g,0,none⟩/\A g)/\∀(i:Nat) (a:Ac),l[i]?=some a->w.cell? ⟨g,i*3,none⟩=some (.int .i64 (a.kind:Int))/\w.cell? ⟨g,i*3+1,none⟩=some (sv a.name)/\w.cell? ⟨g,i*3+2,none⟩=some (.int .i64 a.first):=by
 obtain ⟨xs,hr,hs⟩:=h
 obtain ⟨ad,g,cap,h1,h2,h3,h4⟩:=I9.open (k:=3) (fun a c hc=>by rw[show c=_ from hc];rfl) hr hs
 refine ⟨ad,g,cap,h1,h2,fun hp=>⟨(h3 hp).1,(h3 hp).2.1⟩,fun i a hi=>?_⟩
 obtain ⟨c,hc,hx⟩:=h4 i a hi
 obtain rfl:c=_:=hc
 exact ⟨hx 0 _ rfl,hx 1 _ rfl,hx 2 _ rfl⟩
def bm (E:Nat) (ns:List AW) (P:Nat->Prop) (w:World) (kb:Nat) (k:Kd):Prop:=(∃c,CM P w kb k c/\c.nv+1≤k.net.first.length)/\GV E ns k/\(∀b,P b->b<w.heap.size)/\k.net.first.length+ns.length≤k.net.code.length+E
def Ep (k:Kd) (p:Int):Kd:={ k with net:={ k.net with ins:=k.net.ins++[p] } }
def D0 (k:Kd) (p:Int):Kd:={ k with net:={ k.net with outs:=k.net.outs++[p] } }
def DS (k:Kd) (s:AW) (v:Vr):Kd:={ k with vars:=fun t=>if t=s then v else k.vars t }
theorem Np:J0 ns k≤ns.length:=List.length_filter_le _ _
theorem GV.ofPot {k':Kd}(h:GV E ns k) (hp:k.net.first.length+ns.length≤k.net.code.length+E) (e1:k'.net.first=k.net.first) (e2:k'.net.places=k.net.places) (e3:k'.net.code=k.net.code) (e4:k'.net.keeps=k.net.keeps) (e5:k'.net.nums=k.net.nums) (hi:k'.net.ins.length≤k.net.first.length) (ho:k'.net.outs.length≤k.net.first.length) (hv:∀s,Cq (k'.vars s).first) (hn:∀s,s∉ns->(k'.vars s).was≠-1):GV E ns k':=by
 have:=Np (ns:=ns) (k:=k')
 refine ⟨by rw[e1,e2];exact h.len,by rw[e1,e3];omega,by rw[e3];exact h.code,by rw[e1,e4];exact h.keeps,by rw[e1];exact hi,by rw[e1];exact ho,by rw[e3,e5];exact h.nums,h.e,by rw[e1];exact h.nf,by rw[e5];exact h.nn,hv,hn⟩
theorem bm.put (h:bm E ns P w kb k) {s:AW}{v:Vr}(hs:s.length≤maxLen) (hsn:s∈ns) (hv:Cq v.first) (S:Value) (hS:S=sv s):∃mv w6,w.cell? ⟨kb,7,none⟩=some (.map (some mv))/\(Instr.mapUpdate 166 (.map (some mv)) S (.agg #[.int .i64 v.now,.int .i64 v.was,.int .i64 v.first])).run Tryz.prog w.drew=.ok () w6/\Bg E ns P w6 kb (DS k s v)/\Ap P w w6:=by
 obtain ⟨⟨c,hc,hnv⟩,hF,hlt,hpot⟩:=h
 obtain ⟨f,hm,hf⟩:=hc.hv
 have hmD:Gm.Mp Tryz.prog 9 w.drew c.mv c.nv f:=hm.keep rfl
 obtain ⟨w6,hrun,hm6,hg6⟩:=hmD.put G6 Tryz.underlying166 (by have:=hF.few;unfold maxLen;omega) (UQ hs) (Rf v)
 have hcD:CM P w.drew kb k c:=hc.carry fun b hb _=>⟨hb,rfl⟩
 obtain ⟨g3,g4⟩:=hcD.setV (vars':=(DS k s v).vars) hm6 (fun t=>by
  show ((Gm.put f _ _) _).getD _=Rf (if t=s then v else k.vars t)
  by_cases hts:t=s
  ·rw[hts,Gm.Hd _ (by trivial),if_pos rfl];rfl
  ·rw[Gm.F4 _ _ (by intro e;injection e with e;exact hts e),if_neg hts];exact hf t) hg6 (by split<;>omega)
 refine ⟨c.mv,w6,hc.cell 7 rfl,by rw[hS];exact hrun,⟨⟨_,g3⟩,hF.ofPot hpot rfl rfl rfl rfl rfl hF.ins hF.outs (fun t=>?_) (fun t ht=>?_),fun b hb=>Nat.lt_of_lt_of_le (hlt b hb) g4.size⟩,(Ap.refl P w).drew.trans g4 fun _ _ h=>h⟩
 ·show Cq (if t=s then v else k.vars t).first
  split
  ·exact hv
  ·exact hF.vf t
 ·show (if t=s then v else k.vars t).was≠-1
  rw[if_neg (fun e:t=s=>ht (e▸hsn))];exact hF.out t ht
end
end Ew
end
end Go.Proofs.YtdeklanmddlgpaaGreatDoor
