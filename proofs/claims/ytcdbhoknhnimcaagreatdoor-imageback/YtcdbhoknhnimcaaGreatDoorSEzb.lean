import Derived.Test.YtcdbhoknhnimcaaGreatDoorSEb
import Derived.Deep.DeepCutAuto
import Derived.Test.YtcdbhoknhnimcaaGreatDoorSUa
import Derived.Test.YtcdbhoknhnimcaaGreatDoorSCk2
import Derived.BigQuiet
set_option maxRecDepth 100000
set_option maxHeartbeats 2000000
namespace Go.Proofs.YtcdbhoknhnimcaaGreatDoor
section
open Go.RowKit Px
namespace Ew
open Px.Em (Kd Vr)
open Nx (Nt Sp)
section
variable {P:Nat->Prop}{w:World}{kb E:Nat}{ns:List bA}{k:Kd}
theorem eV.up {α:Type}{w1 w2:World}{k1:Kd}{o o2:Option (α×Kd)}{val:α->Value}{e:Ending}(hP:∀b,P b->b<w.heap.size) (h1:bV P w w1) (hp:k.net.places≤k1.net.places) (ho:o=o2) (h2:eV E ns (Up P w w1) kb w1 k1 o2 val e w2):eV E ns P kb w k o val e w2:=by
 subst ho
 rcases h2 with ⟨rfl,h3,h4⟩|⟨a,k',rfl,h3,h4⟩
 ·exact .inl ⟨rfl,h3,h1.up h4.out⟩
 ·exact .inr ⟨a,k',rfl,h3,h4.out.1.up hP h1.size h4.out.2.1.size,h1.up h4.out.2.1,by have:=h4.out.2.2;omega⟩
theorem eV.below {α:Type}{w1 w2:World}{o:Option (α×Kd)}{val:α->Value}{e:Ending}(hP:∀b,P b->b<w.heap.size) (hb:Below w.heap.size w w1) (h2:eV E ns P kb w1 k o val e w2):eV E ns P kb w k o val e w2:=by
 rcases h2 with ⟨rfl,h3,h4⟩|⟨a,k',rfl,h3,h4⟩
 ·exact .inl ⟨rfl,h3,(bV.of_below hb).trans h4.out fun _ _ h=>h⟩
 ·have hs:=hb.size
  have hf:bV P w w2:=(bV.of_below hb).trans h4.out.2.1 fun _ _ h=>h
  exact .inr ⟨a,k',rfl,h3,h4.out.1.mono (fun b hu=>hu.elim .inl fun h=>.inr ⟨by omega,h.2⟩) (gZ hP hf.size),hf,h4.out.2.2⟩
theorem eV.pure {α:Type}{o:Option (α×Kd)}{val:α->Value}{a:α}(h:dZ E ns P w kb k) (ho:o=some (a,k)):eV E ns P kb w k o val (.returned (val a)) w:=
 .inr ⟨a,k,rfl,ho,h.mono (fun _ h=>.inl h) (fun b hb=>hb.elim (h.2.2 b) fun h=>h.2),bV.refl _ _,Int.le_refl _⟩
def numbered (k:Kd) (n p:Int):Kd:={ k with net:={ k.net with nums:=k.net.nums++[n] },nums:=fun m=>if m=n then some p else k.nums m }
theorem bO3 {n p:Int}(h:k.nums n=some p):Em.number n k=some (p,k):=by
 show (match k.nums n with|some p=>(Pure.pure p:Em.M Int)|none=>_) k=_
 rw[h];rfl
theorem tR {n:Int}(h:k.nums n=none) (h2:Em.made 1 k.net.nums.length 0 0 k=none):Em.number n k=none:=by
 show (match k.nums n with|some p=>(Pure.pure p:Em.M Int)|none=>_) k=_
 rw[h]
 exact aE h2
theorem tQ {n p:Int}{k1:Kd}(h:k.nums n=none) (h2:Em.made 1 k.net.nums.length 0 0 k=some (p,k1)):Em.number n k=some (p,numbered k1 n p):=by
 show (match k.nums n with|some p=>(Pure.pure p:Em.M Int)|none=>_) k=_
 rw[h]
 exact bind_some h2
theorem yW {c a b d p:Int}{k1:Kd}(h:Em.made c a b d k=some (p,k1)):k1.net.nums=k.net.nums/\k1.net.code.length=k.net.code.length+1/\k1.net.nums.length=k.net.nums.length/\k1.nums=k.nums/\k1.vars=k.vars:=by
 by_cases hc:4000≤k.net.code.length
 ·rw[yV hc] at h;exact absurd h (by simp)
 ·rw[yU (by omega)] at h
  injection h with h
  injection h with _ h
  subst h
  exact ⟨rfl,by simp[added,aQ],rfl,rfl,rfl⟩
theorem pW.numbered {n p:Int}(h:pW E ns k) (hx:gQ n) (hl:k.net.nums.length<k.net.code.length):pW E ns (numbered k n p):=
 ⟨h.len,h.pot,h.code,h.keeps,h.ins,h.outs,by simp[Ew.numbered];omega,h.e,h.nf,fun y hy=>by
  rcases List.mem_append.1 hy with h'|h'
  ·exact h.nn y h'
  ·rw[List.mem_singleton.1 h'];exact hx,h.vf,h.out⟩
theorem bI3:Maps.Keyed Tryz.prog 2:=Maps.int_keyed Tryz.underlying2
theorem cE {n:Int}(h:dZ E ns P w kb k) (hE:E<1000000) (hn:gQ n) :
    Calls Tryz.prog 235 #[.pointer (some ⟨kb,0,none⟩),.int .i64 n] w (eV E ns P kb w k (Em.number n k) (Value.int .i64)):=by
 obtain ⟨⟨c,hc⟩,hF,hlt⟩:=h
 have c8:=hc.cell 8 (u:=.map (some c.mn)) rfl
 obtain ⟨f,hm,hf⟩:=hc.hn
 have hlk:=hm.look_ok bI3 Tryz.underlying59 (Q3 w) (Maps.keyOf_int_mk Tryz.underlying2 hn.wf)
 rw[hf n] at hlk
 cases hkn:k.nums n with
 | some p=>
  rw[hkn] at hlk
  have hlk':(Instr.lookup 59 (.map (some c.mn)) (.int .i64 n) true).run Tryz.prog w=.ok (.tuple #[.int .i64 p,.bool true]) w:=hlk
  have HC:Hid (dZ E ns P w kb k/\_):=⟨⟨⟨c,hc⟩,hF,hlt⟩,hkn⟩
  clear hc hF hlt hm hf hlk hkn
  go_enter Tryz.func235,Tryz.ntmps235
  go_wp2_with fail
  go_ret
  exact eV.pure HC.out.1 (bO3 HC.out.2)
 | none=>
  rw[hkn] at hlk
  have hlk':(Instr.lookup 59 (.map (some c.mn)) (.int .i64 n) true).run Tryz.prog w=.ok (.tuple #[.int .i64 0,.bool false]) w:=hlk
  have hr:w.ownsRow 0 2 1 (c.v 5) k.net.nums.length (k.net.nums.map (Value.int .i64)):=hc.row 5 (by omega) (by omega)
  obtain ⟨ao,cap,e1⟩:=aL hr
  have c5:=hc.cell 5 (u:=c.v 5) rfl
  rw[e1] at c5
  have hmade:=hJ 1 (k.net.nums.length:Int) 0 0 ⟨⟨c,hc⟩,hF,hlt⟩ hE
  have HK:Hid (k.nums n=none/\pW E ns k/\∀b,P b->b<w.heap.size):=⟨hkn,hF,hlt⟩
  obtain ⟨i0,hi,hz0,hz1,hz2⟩:=info_parts bI1
  clear hc hF hlt hm hf hlk hkn hr e1
  go_enter Tryz.func235,Tryz.ntmps235
  go_upto_region 4 with (go_at_call 233;refine hmade.mono ?_;rintro e w1 (⟨rfl,h0,h1⟩|⟨p,k1,rfl,h0,h1⟩);(· exact ⟨rfl,.inl ⟨rfl,tR HK.out.1 h0.out,h1⟩⟩))
  clear c8 c5 hlk' hmade
  obtain ⟨⟨⟨c1,hc1⟩,hF1,hlt1⟩,hfr1,hpl1⟩:=h1.out
  obtain ⟨m1,m2,m3,m4,m5⟩:=yW h0.out
  have hr:w1.ownsRow 0 2 1 (c1.v 5) k1.net.nums.length (k1.net.nums.map (Value.int .i64)):=hc1.row 5 (by omega) (by omega)
  obtain ⟨ao1,cap1,e1⟩:=aL hr
  have c5:=hc1.cell 5 (u:=c1.v 5) rfl
  rw[e1] at c5 hr
  obtain ⟨m,hm⟩:∃m,m=k1.net.nums.length:=⟨_,rfl⟩
  have hm4:m≤4000:=by have:=hF1.nums;have:=hF1.code;omega
  rw[<-hm] at c5 hr
  have lkb:=aB hc1.hk
  have HK1:Hid (w1.heap[kb]?=some (.cells (c1.cells k1.net.places).toArray 168 (0,0))/\∀g,(Value.slice ao1 m cap1).ownBlock=some g->g≠kb):=⟨hc1.hk,fun g hg e=>by
   have h1:=hc1.pr 5 g (by omega) (by omega) (by rw[e1,<-hm];exact hg)
   rw[e,hc1.p0.2] at h1;exact absurd h1.2 (by omega)⟩
  have HC1:Hid (_/\c1.v 5=.slice ao1 m cap1/\_/\_/\_/\_/\k1.net.nums.length<k1.net.code.length/\k1.nums n=none):=⟨hc1,by rw[hm];exact e1,hF1,hfr1,hpl1,hm,by have:=HK.out.2.1.nums;omega,by rw[m4];exact HK.out.1⟩
  clear hc1 hF1 hlt1 hfr1 hpl1 e1 hm m1 m2 m3 m4 m5
  go_upto_region 5 with (at_builtin;refine wpList_append_own_at _ rfl (.tmp 32) (.tmp 34) 22 rfl 0 2 i0 _ 1 8 Tryz.underlying22 hi hz0 hz1 hz2 rfl (by decide) _ _ _ rfl (hr.alloc _) ⟨w1.heap.size,0,none⟩ 1 1 [.int .i64 n] rfl rfl (eN _ _ _) (by intro u hu;simp at hu;subst hu;rfl) (by unfold maxLen;omega) (by omega) (by simp) ?_;intro v5 w5 hown5 hgrow _ hat;obtain ⟨a5,m5,e5⟩:=aL hown5;subst e5;have hk5:w5.heap[kb]?=some (.cells (c1.cells k1.net.places).toArray 168 (0,0)):=by { rw[hgrow.block kb (by simp;omega) (fun e=>(HK1.out.2 kb e.symm) rfl),dR HK1.out.1] };have d1:=aA hk5 5 (u:=c1.v 5) rfl;have f1:=aH hk5 5)
  obtain ⟨hC1,e1,hF1,hfr1,hpl1,hm,hlc,hn1⟩:=HC1.out
  obtain ⟨g1,g2⟩:=hC1.grow (i:=5) (by omega) (by omega) (w0:=w1.alloc (.cells #[.int .i64 n] 2)) (n5:={ k1.net with nums:=k1.net.nums++[n] }) (aD _ _) (new:=[.int .i64 n]) (by show World.ownsRow _ _ _ _ _ (k1.net.nums.length+1) _;rw[<-hm];exact hown5) (by rw[e1];exact hgrow) (by rw[e1];exact hat) rfl (fun j hj=>by unfold pH nT;split<;>first|exact absurd rfl hj|exact ⟨rfl,rfl⟩) ⟨by simp[pH],by simp[nT]⟩
  obtain ⟨X,hX⟩:∃X,X=w5.setCell ⟨kb,5,none⟩ (.slice a5 (m+1) m5):=⟨_,rfl⟩
  rw[<-hX] at g1 g2 ⊢
  obtain ⟨f,hmX,hfX⟩:=g1.hn
  have x8:=g1.cell 8 (u:=.map (some c1.mn)) rfl
  have hnn:c1.nn≤k1.net.nums.length:=hC1.nn
  obtain ⟨w6,hrun,hm6,hg6⟩:=hmX.put bI3 Tryz.underlying59 (by show c1.nn<maxLen;unfold maxLen;omega) (Maps.keyOf_int_mk Tryz.underlying2 hn.wf) (.int .i64 p)
  have hrun':(Instr.mapUpdate 59 (.map (some c1.mn)) (.int .i64 n) (.int .i64 p)).run Tryz.prog X=.ok () w6:=hrun
  have hfn:f (.int .i64 n)=none:=by rw[hfX n];show (k1.nums n).map _=_;rw[hn1];rfl
  rw[hfn] at hm6
  obtain ⟨g3,g4⟩:=g1.setN (nums':=fun m=>if m=n then some p else k1.nums m) hm6 (fun x=>by
   by_cases hxn:x=n
   ·rw[hxn,Gm.rG _ (by trivial),if_pos rfl];rfl
   ·rw[Gm.oU _ _ (by intro e;injection e with _ e;exact hxn e),if_neg hxn];exact hfX x) hg6 (by simp;exact Nat.le_trans hnn (Nat.le_refl _))
  have hU:∀b,Up (Up P w w1) w1 X b->Up P w w6 b:=fun b hb=>Up.size g4.size b (Up.up hfr1.size g2.size b hb)
  have hfr6:bV P w w6:=(hfr1.up g2).trans g4 fun b hb hq=>by
   rcases hq with (hq|hq)|hq
   ·exact hq
   ·omega
   ·have:=hfr1.size;omega
  have HF:Hid (eV E ns P kb w k (Em.number n k) (Value.int .i64) (.returned (.int .i64 p)) w6):=.inr ⟨p,numbered k1 n p,rfl,tQ HK.out.1 h0.out,⟨⟨_,g3.mono hU⟩,hF1.numbered hn hlc,gZ HK.out.2.2 hfr6.size⟩,hfr6,hpl1⟩
  clear hX g1 g2 hmX hfX hrun hm6 hg6 hfn g3 g4 hU hfr6 hC1 e1 hF1 hfr1 hpl1 hm hlc hn1 hnn hown5 hgrow hat hk5 d1 f1 c5 hr h0 h1
  go_wp2_with fail
  go_ret
  exact HF.out
end
end Ew
end
section
open Go.RowKit Px
namespace Ew
open Px.Em (Kd Vr)
open Nx (Nt Sp)
section
variable {P:Nat->Prop}{w:World}{kb E:Nat}{ns:List bA}{k:Kd}
theorem zL {a b:Int}(h:a=-1\/b=-1):Em.rY a b k=some (-1,k):=by unfold Em.rY;rw[if_pos h];rfl
theorem bN4 {a b:Int}(ha:a≠-1) (hb:b≠-1):Em.rY a b k=Em.made 15 a b 0 k:=by unfold Em.rY;rw[if_neg (by rintro (h|h);exact ha h;exact hb h)]
theorem bS2 {a b:Int}(h:a=-1):Em.sS a b k=some (b,k):=by unfold Em.sS;rw[if_pos h];rfl
theorem bF1 {a b:Int}(ha:a≠-1) (h:b=-1):Em.sS a b k=some (a,k):=by unfold Em.sS;rw[if_neg ha,if_pos h];rfl
theorem bS1 {a b:Int}(ha:a≠-1) (hb:b≠-1):Em.sS a b k=Em.made 16 a b 0 k:=by unfold Em.sS;rw[if_neg ha,if_neg hb]
theorem bM9 {a b:Int}(h:b=-1):Em.dL a b k=some (a,k):=by unfold Em.dL;rw[if_pos h];rfl
theorem cK7 {a b:Int}(hb:b≠-1) (h:a=-1\/a=b):Em.dL a b k=some (-1,k):=by unfold Em.dL;rw[if_neg hb,if_pos h];rfl
theorem bW8 {a b:Int}(hb:b≠-1) (ha:a≠-1) (hab:a≠b):Em.dL a b k=Em.made 13 b a 0 k:=by unfold Em.dL;rw[if_neg hb,if_neg (by rintro (h|h);exact ha h;exact hab h)]
theorem rX (a b:Int) (h:dZ E ns P w kb k) (hE:E<1000000) :
    Calls Tryz.prog 260 #[.pointer (some ⟨kb,0,none⟩),.int .i64 a,.int .i64 b] w (eV E ns P kb w k (Em.rY a b k) (Value.int .i64)):=by
 by_cases ha:a=-1
 ·rw[zL (.inl ha)]
  have HF:Hid (eV E ns P kb w k (some (-1,k)) (Value.int .i64) (.returned (.int .i64 (-1))) w):=eV.pure h rfl
  have t:(a == -1)=true:=by simpa using ha
  clear ha h
  go_enter Tryz.func260,Tryz.ntmps260
  go_wp2_with fail
  go_ret
  exact HF.out
 ·by_cases hb:b=-1
  ·rw[zL (.inr hb)]
   have HF:Hid (eV E ns P kb w k (some (-1,k)) (Value.int .i64) (.returned (.int .i64 (-1))) w):=eV.pure h rfl
   have t:(a == -1)=false:=by simpa using ha
   have t2:(b == -1)=true:=by simpa using hb
   clear ha hb h
   go_enter Tryz.func260,Tryz.ntmps260
   go_wp2_with fail
   go_ret
   exact HF.out
  ·rw[bN4 ha hb]
   have hmade:=hJ 15 a b 0 h hE
   have t:(a == -1)=false:=by simpa using ha
   have t2:(b == -1)=false:=by simpa using hb
   clear ha hb h
   go_enter Tryz.func260,Tryz.ntmps260
   go_wp2_with (go_at_call 233;refine hmade.mono ?_;rintro e w1 (⟨rfl,h0,h1⟩|⟨p,k1,rfl,h0,h1⟩);(· exact ⟨rfl,.inl ⟨rfl,h0,h1⟩⟩))
   go_ret
   exact .inr ⟨p,k1,rfl,h0,h1⟩
theorem nV (a b:Int) (h:dZ E ns P w kb k) (hE:E<1000000) :
    Calls Tryz.prog 239 #[.pointer (some ⟨kb,0,none⟩),.int .i64 a,.int .i64 b] w (eV E ns P kb w k (Em.sS a b k) (Value.int .i64)):=by
 by_cases ha:a=-1
 ·rw[bS2 ha]
  have HF:Hid (eV E ns P kb w k (some (b,k)) (Value.int .i64) (.returned (.int .i64 b)) w):=eV.pure h rfl
  have t:(a == -1)=true:=by simpa using ha
  clear ha h
  go_enter Tryz.func239,Tryz.ntmps239
  go_wp2_with fail
  go_ret
  exact HF.out
 ·by_cases hb:b=-1
  ·rw[bF1 ha hb]
   have HF:Hid (eV E ns P kb w k (some (a,k)) (Value.int .i64) (.returned (.int .i64 a)) w):=eV.pure h rfl
   have t:(a == -1)=false:=by simpa using ha
   have t2:(b == -1)=true:=by simpa using hb
   clear ha hb h
   go_enter Tryz.func239,Tryz.ntmps239
   go_wp2_with fail
   go_ret
   exact HF.out
  ·rw[bS1 ha hb]
   have hmade:=hJ 16 a b 0 h hE
   have t:(a == -1)=false:=by simpa using ha
   have t2:(b == -1)=false:=by simpa using hb
   clear ha hb h
   go_enter Tryz.func239,Tryz.ntmps239
   go_wp2_with (go_at_call 233;refine hmade.mono ?_;rintro e w1 (⟨rfl,h0,h1⟩|⟨p,k1,rfl,h0,h1⟩);(· exact ⟨rfl,.inl ⟨rfl,h0,h1⟩⟩))
   go_ret
   exact .inr ⟨p,k1,rfl,h0,h1⟩
theorem mT (a b:Int) (h:dZ E ns P w kb k) (hE:E<1000000) :
    Calls Tryz.prog 232 #[.pointer (some ⟨kb,0,none⟩),.int .i64 a,.int .i64 b] w (eV E ns P kb w k (Em.dL a b k) (Value.int .i64)):=by
 by_cases hb:b=-1
 ·rw[bM9 hb]
  have HF:Hid (eV E ns P kb w k (some (a,k)) (Value.int .i64) (.returned (.int .i64 a)) w):=eV.pure h rfl
  have t:(b == -1)=true:=by simpa using hb
  clear hb h
  go_enter Tryz.func232,Tryz.ntmps232
  go_wp2_with fail
  go_ret
  exact HF.out
 ·by_cases ha:a=-1
  ·rw[cK7 hb (.inl ha)]
   have HF:Hid (eV E ns P kb w k (some (-1,k)) (Value.int .i64) (.returned (.int .i64 (-1))) w):=eV.pure h rfl
   have t:(b == -1)=false:=by simpa using hb
   have t2:(a == -1)=true:=by simpa using ha
   clear ha hb h
   go_enter Tryz.func232,Tryz.ntmps232
   go_wp2_with fail
   go_ret
   exact HF.out
  ·by_cases hab:a=b
   ·rw[cK7 hb (.inr hab)]
    have HF:Hid (eV E ns P kb w k (some (-1,k)) (Value.int .i64) (.returned (.int .i64 (-1))) w):=eV.pure h rfl
    have t:(b == -1)=false:=by simpa using hb
    have t2:(a == -1)=false:=by simpa using ha
    have t3:(a==b)=true:=by simpa using hab
    clear ha hb h hab
    go_enter Tryz.func232,Tryz.ntmps232
    go_wp2_with fail
    go_ret
    exact HF.out
   ·rw[bW8 hb ha hab]
    have hmade:=hJ 13 b a 0 h hE
    have t:(b == -1)=false:=by simpa using hb
    have t2:(a == -1)=false:=by simpa using ha
    have t3:(a==b)=false:=by simpa using hab
    clear ha hb h hab
    go_enter Tryz.func232,Tryz.ntmps232
    go_wp2_with (go_at_call 233;refine hmade.mono ?_;rintro e w1 (⟨rfl,h0,h1⟩|⟨p,k1,rfl,h0,h1⟩);(· exact ⟨rfl,.inl ⟨rfl,h0,h1⟩⟩))
    go_ret
    exact .inr ⟨p,k1,rfl,h0,h1⟩
theorem B0 (dst so from_:Int) (h:dZ E ns P w kb k) :
    Calls Tryz.prog 242 #[.pointer (some ⟨kb,0,none⟩),.int .i64 dst,.int .i64 so,.int .i64 from_] w (eV E ns P kb w k (Em.put dst so from_ k) (fun _=>.tuple #[])):=by
 by_cases hcl:4000≤k.net.code.length
 ·have hadd:=H9 ⟨17,dst,so,from_,dst⟩ h hcl
  clear h
  go_enter Tryz.func242,Tryz.ntmps242
  go_wp2_with (go_at_call 150;refine hadd.mono ?_;rintro e w2 ⟨rfl,h2⟩)
  exact ⟨rfl,.inl ⟨rfl,if_pos hcl,h2⟩⟩
 ·have hadd:=aJ8 (E:=E) ⟨17,dst,so,from_,dst⟩ h (by omega) h.2.1.e (by omega)
  clear h
  go_enter Tryz.func242,Tryz.ntmps242
  go_wp2_with (go_at_call 150;refine hadd.mono ?_;rintro e w2 ⟨rfl,h2⟩)
  go_end0
  exact .inr ⟨(),_,rfl,if_neg hcl,h2.out.1,h2.out.2,Int.le_refl _⟩
theorem sX (so p:Int) (h:dZ E ns P w kb k) (hE:E<1000000) :
    Calls Tryz.prog 237 #[.pointer (some ⟨kb,0,none⟩),.int .i64 so,.int .i64 p] w (eV E ns P kb w k (Em.given so p k) (Value.int .i64)):=by
 have hnum:=cE (n:=0) h hE gQ.zero
 have HP:Hid _:=h.2.2
 clear h
 go_enter Tryz.func237,Tryz.ntmps237
 go_wp2_with (first
  | (go_at_call 235;refine hnum.mono ?_;rintro e w1 (⟨rfl,h0,h1⟩|⟨z,k1,rfl,h0,h1⟩);(· exact ⟨rfl,.inl ⟨rfl,aE h0.out,h1⟩⟩);have hmade:=hJ 17 so p z h1.out.1 hE;clear hnum)
  | (go_at_call 233;refine hmade.mono ?_;rintro e w2 (⟨rfl,h2,h3⟩|⟨q,k2,rfl,h2,h3⟩);(· exact ⟨rfl,eV.up HP.out h1.out.2.1 h1.out.2.2 (bind_some h0.out) (.inl ⟨rfl,h2,h3⟩)⟩)))
 go_ret
 exact eV.up HP.out h1.out.2.1 h1.out.2.2 (bind_some h0.out) (.inr ⟨q,k2,rfl,h2,h3⟩)
theorem mM (i:Nat) (hi:i≤1000000):Calls Tryz.prog 199 #[.int .i64 (i:Int)] w fun e w'=>e=.returned (.int .i64 ((i:Int)+1))/\w'=w:=by
 go_enter Tryz.func199,Tryz.ntmps199
 go_wp2_with fail
 go_ret
 exact ⟨rfl,rfl⟩
theorem aM1 {i:Nat}(hi:i≤1000000):gQ ((i:Int)+1):=by unfold gQ;omega
theorem D9 (p:Int) (i:Nat) (hi:i≤1000000) (h:dZ E ns P w kb k) (hE:E<1000000) :
    Calls Tryz.prog 204 #[.pointer (some ⟨kb,0,none⟩),.int .i64 p,.int .i64 (i:Int)] w (eV E ns P kb w k (Em.is p i k) (Value.int .i64)):=by
 have hnum:=cE (n:=(i:Int)+1) h hE (aM1 hi)
 have hno:=mM (w:=w) i hi
 have HP:Hid _:=h.2.2
 clear h
 go_enter Tryz.func204,Tryz.ntmps204
 go_wp2_with (first
  | (go_at_call 199;refine hno.mono ?_;rintro e w0 ⟨rfl,h00⟩;obtain rfl:=h00.symm;clear hno)
  | (go_at_call 235;refine hnum.mono ?_;rintro e w1 (⟨rfl,h0,h1⟩|⟨z,k1,rfl,h0,h1⟩);(· exact ⟨rfl,.inl ⟨rfl,aE h0.out,h1⟩⟩);have hmade:=hJ 11 p z 0 h1.out.1 hE;clear hnum)
  | (go_at_call 233;refine hmade.mono ?_;rintro e w2 (⟨rfl,h2,h3⟩|⟨q,k2,rfl,h2,h3⟩);(· exact ⟨rfl,eV.up HP.out h1.out.2.1 h1.out.2.2 (bind_some h0.out) (.inl ⟨rfl,h2,h3⟩)⟩)))
 go_ret
 exact eV.up HP.out h1.out.2.1 h1.out.2.2 (bind_some h0.out) (.inr ⟨q,k2,rfl,h2,h3⟩)
end
end Ew
end
section
open Go.RowKit Px
def qK:E->Prop
 | .nil=>True
 | .node _ _ a l r=>a.name.length≤maxLen/\gQ a.num/\qK l/\qK r
def oH (ns:List bA) (l:List gX):Prop:=∀a∈l,a.name∈ns/\a.name.length≤maxLen/\qK a.e
structure Cx {σ:Type}(ns:List bA) (s:bM σ):Prop where
 en:oH ns s.enter
 du:oH ns s.during
 le:oH ns s.leave
 re:qK s.rests
 wy:∀y∈s.ways,qK y.cond/\oH ns y.sets
 wl:s.ways.length≤maxLen
 il:s.regions.length≤maxLen
def pU (ns:List bA):(k:Nat)->List (St k)->Prop
 | 0=>fun _=>True
 | k+1=>fun L=>∀s∈(show List (bM (St k)) from L),Cx ns s/\∀r∈s.regions,pU ns k r
def tK:(k:Nat)->List (St k)->Prop
 | 0=>fun _=>False
 | k+1=>fun L=>gY (ρ:=St k) L=1/\bY0 (aZ (ρ:=St k) L)/\(∀s∈(show List (bM (St k)) from L),∀y∈s.ways,∃t,iT (aZ (ρ:=St k) L) y.to=some t)/\List.length L≤1000000/\∀s∈(show List (bM (St k)) from L),s.name.length≤maxLen/\s.ways.length≤1000000/\s.regions.length≤1000000/\(∀y∈s.ways,y.to.length≤maxLen)/\∀r∈s.regions,tK k r
structure bO2 (c:fQ):Prop where
 vl:c.vars.length≤1000000
 vn:∀v∈c.vars,v.name.length≤maxLen
 rl:c.regions.length≤maxLen
 st:∀L∈c.regions,pU (bO c.vars) 6 L
end
section
open Go.RowKit Px
namespace Ew
open Px.Em (Kd Vr)
open Nx (Nt Sp)
section
variable {P A:Nat->Prop}{w:World}{kb E:Nat}{ns:List bA}{k:Kd}
theorem bO9 (w:World):(zeroValue 218).run Tryz.prog w=.ok (Av Ci) w:=by kernel_rfl
theorem CM.lookV {c:Cv}(h:CM P w kb k c) {s:bA}(hs:s.length≤maxLen):(Instr.lookup 166 (.map (some c.mv)) (sv s) false).run Tryz.prog w=.ok (Av (k.vars s)) w:=by
 obtain ⟨f,hm,hf⟩:=h.hv
 rw[hm.look qZ Tryz.underlying166 (bO9 w) (bC4 hs),hf s]
def wased (k:Kd) (s:bA) (v:Vr) (p:Int):Kd:={ k with vars:=fun t=>if t=s then ⟨v.now,p,v.first⟩ else k.vars t }
theorem aK6 {s:bA}(h:(k.vars s).was≠-1):Em.qO s k=some ((k.vars s).was,k):=by
 show (if (k.vars s).was=-1 then _ else (Pure.pure (k.vars s).was:Em.M Int)) k=_
 rw[if_neg h];rfl
theorem aK5 {s:bA}(h:(k.vars s).was=-1):Em.qO s k=some (k.net.places,wased (bB (aQ k (k.vars s).first) k.net.places) s (k.vars s) k.net.places):=by
 show (if (k.vars s).was=-1 then _ else (Pure.pure (k.vars s).was:Em.M Int)) k=_
 rw[if_pos h];rfl
theorem Z5 {α:Type}{p q:α->Bool}(hpq:∀a,q a=true->p a=true) {s:α}(hp:p s=true) (hq:q s=false):∀{l:List α},s∈l->(l.filter q).length+1≤(l.filter p).length:=by
 intro l
 induction l with
 | nil=>intro h;simp at h
 | cons a r ih=>
  intro h
  have hr:(r.filter q).length≤(r.filter p).length:=by
   clear ih h
   induction r with
   | nil=>simp
   | cons b r ih=>
    rw[List.filter_cons,List.filter_cons]
    by_cases hb:q b=true
    ·rw[if_pos hb,if_pos (hpq b hb)];simp;omega
    ·rw[if_neg hb];split<;>first|omega|(simp;omega)
  rw[List.filter_cons,List.filter_cons]
  rcases List.mem_cons.1 h with rfl|h
  ·rw[hq,if_neg (by simp),if_pos hp];simp;omega
  ·have:=ih h
   by_cases hb:q a=true
   ·rw[if_pos hb,if_pos (hpq a hb)];simp;omega
   ·rw[if_neg hb];split<;>first|omega|(simp;omega)
theorem pW.wased {s:bA}{p:Int}{v:Vr}(h:pW (E+1) ns k) (hE:E≤1000000) (hw:(k.vars s).was=-1) (hp:p≠-1) (hv:gQ v.first):pW E ns (Ew.wased k s v p):=by
 have hs:s∈ns:=by
  by_cases hs:s∈ns
  ·exact hs
  ·exact absurd hw (h.out s hs)
 have hl:wG ns (Ew.wased k s v p)+1≤wG ns k:=Z5 (s:=s) (fun a ha=>by
  simp only[Ew.wased] at ha
  by_cases has:a=s
  ·subst has;simpa using hw
  ·simpa [has] using ha) (by simpa using hw) (by simp[Ew.wased];exact hp) hs
 have:=h.pot
 refine ⟨h.len,?_,h.code,h.keeps,h.ins,h.outs,h.nums,hE,h.nf,h.nn,fun t=>?_,fun t ht=>?_⟩
 ·show k.net.first.length+_≤k.net.code.length+E;omega
 ·show gQ (if t=s then (⟨v.now,p,v.first⟩:Vr) else k.vars t).first
  split
  ·exact hv
  ·exact h.vf t
 ·show (if t=s then (⟨v.now,p,v.first⟩:Vr) else k.vars t).was≠-1
  split
  ·exact hp
  ·exact h.out t ht
theorem bP3 {s:bA}(hs:s.length≤maxLen) (h:dZ E ns P w kb k) (hE:E<1000000) :
    Calls Tryz.prog 258 #[.pointer (some ⟨kb,0,none⟩),sv s] w (eV E ns P kb w k (Em.qO s k) (Value.int .i64)):=by
 obtain ⟨⟨c,hc⟩,hF,hlt⟩:=h
 have c7:=hc.cell 7 (u:=.map (some c.mv)) rfl
 have hlk:=hc.lookV hs
 have hfirst:=hF.vf s
 obtain ⟨W,hW⟩:∃W,W=w.alloc (.cells #[.int .i64 (k.vars s).now,.int .i64 (k.vars s).was,.int .i64 (k.vars s).first] 218):=⟨_,rfl⟩
 have hbw:Below w.heap.size w W:=by rw[hW];exact aD _ _
 have hkq:W.heap[w.heap.size]?=some (.cells #[.int .i64 (k.vars s).now,.int .i64 (k.vars s).was,.int .i64 (k.vars s).first] 218 (0,0)):=by rw[hW];exact bF w _
 obtain ⟨q,hq⟩:∃q,q=w.heap.size:=⟨_,rfl⟩
 rw[<-hq] at hkq
 have hCW:dZ E ns P W kb k:=dZ.below ⟨⟨c,hc⟩,hF,hlt⟩ hbw
 have HH:Hid (_/\_/\_/\_/\_/\_/\¬P q):=⟨hCW,hbw,hlt,hq.symm,hkq,hs,fun hp=>by have:=hlt q hp;omega⟩
 obtain ⟨vn,vw,vf,hv⟩:∃vn vw vf,k.vars s=⟨vn,vw,vf⟩:=⟨_,_,_,rfl⟩
 rw[hv] at hW hkq HH hfirst
 have hlk':(Instr.lookup 166 (.map (some c.mv)) (sv s) false).run Tryz.prog w=.ok (.agg #[.int .i64 vn,.int .i64 vw,.int .i64 vf]) w:=by rw[hlk,hv];rfl
 have x0:=aA hkq 0 (u:=.int .i64 vn) rfl
 have x1:=aA hkq 1 (u:=.int .i64 vw) rfl
 have x2:=aA hkq 2 (u:=.int .i64 vf) rfl
 have HV:Hid _:=hv
 obtain ⟨S,hS⟩:∃S,S=sv s:=⟨_,rfl⟩
 have HS:Hid _:=hS
 rw[<-hS] at hlk' ⊢
 by_cases hw:vw=-1
 ·have hkept:=wM (x:=vf) hCW hE hfirst
  obtain ⟨p,hp⟩:∃p,p=k.net.places:=⟨_,rfl⟩
  have HP:Hid (_/\p≠-1/\_):=⟨hp,by have:=hF.len;omega,hF.len⟩
  rw[<-hp] at hkept
  have t:(vw == -1)=true:=by simpa using hw
  have HW:Hid _:=hw
  clear hc hF hlt hlk hCW hbw hkq hs hv hS hw hp
  go_enter Tryz.func258,Tryz.ntmps258
  go_upto_region 2 with fail
  rw[<-hW,<-hq]
  clear hW hq c7 hlk'
  go_upto_region 4 with (go_at_call 146;refine hkept.mono ?_;rintro e w1 ⟨rfl,h1⟩;have hk1:=h1.out.2.heap HH.out.2.2.2.2.1 HH.out.2.2.2.2.2.2;have d1:=aA hk1 1 (u:=.int .i64 vw) rfl;have f1:=aH hk1 1)
  obtain ⟨X,hX⟩:∃X,X=w1.setCell ⟨q,1,none⟩ (.int .i64 p):=⟨_,rfl⟩
  have hkx:X.heap[q]?=some (.cells #[.int .i64 vn,.int .i64 p,.int .i64 vf] 218 (0,0)):=by rw[hX];exact bS (l:=[.int .i64 vn,.int .i64 vw,.int .i64 vf]) hk1 1 _
  have hUq:¬Up P W w1 q:=fun hu=>hu.elim HH.out.2.2.2.2.2.2 fun h=>by have:=aB HH.out.2.2.2.2.1;omega
  have hkeep:bD (Up P W w1) (Up P W w1) w1 X:=fun b hb hl=>⟨hb,by rw[hX];exact Below.heap_setCell _ _ _ _ (fun e=>hUq (by have e:b=q:=e;rw[<-e];exact hb))⟩
  obtain ⟨⟨⟨c1,hc1⟩,hF1,hlt1⟩,hfr1⟩:=h1.out
  have hcX:=hc1.carry hkeep
  have hfX:bV P w X:=by rw[hX];exact ((bV.of_below HH.out.2.1).trans hfr1 fun _ _ h=>h).setCell (.inr (by rw[HH.out.2.2.2.1];exact Nat.le_refl _)) _
  have hsX:X.heap.size=w1.heap.size:=by rw[hX];simp[World.setCell]
  obtain ⟨f,hm,hf⟩:=hcX.hv
  have hmD:Gm.Mp Tryz.prog 9 X.drew c1.mv c1.nv f:=hm.keep rfl
  have hnv:c1.nv≤(bB (aQ k vf) p).net.first.length:=hcX.nv
  obtain ⟨w6,hrun,hm6,hg6⟩:=hmD.put qZ Tryz.underlying166 (by have:=hF1.few;unfold maxLen;omega) (bC4 HH.out.2.2.2.2.2.1) (Av ⟨vn,p,vf⟩)
  have hfs:(f (.string s)).isSome=true:=by
   have:=hf s
   show _
   cases hfs:f (.string s) with
   | some v=>rfl
   | none=>
    rw[hfs] at this
    have h2:Av Ci=Av (k.vars s):=this
    rw[HV.out,HW.out] at h2
    simp[Av,Ci] at h2
  rw[hfs,if_pos rfl] at hm6
  have hrun':(Instr.mapUpdate 166 (.map (some c1.mv)) S (.agg #[.int .i64 vn,.int .i64 p,.int .i64 vf])).run Tryz.prog X.drew=.ok () w6:=by rw[HS.out];exact hrun
  have hcD:CM (Up P W w1) X.drew kb (bB (aQ k vf) p) c1:=hcX.carry fun b hb _=>⟨hb,rfl⟩
  obtain ⟨g3,g4⟩:=hcD.setV (vars':=(wased (bB (aQ k vf) p) s (k.vars s) p).vars) hm6 (fun t=>by
   show ((Gm.put f _ _) _).getD _=Av (if t=s then ⟨(k.vars s).now,p,(k.vars s).first⟩ else k.vars t)
   by_cases hts:t=s
   ·rw[hts,Gm.rG _ (by trivial),if_pos rfl,HV.out];rfl
   ·rw[Gm.oU _ _ (by intro e;injection e with e;exact hts e),if_neg hts];exact hf t) hg6 hnv
  have z7:=hcX.cell 7 (u:=.map (some c1.mv)) rfl
  have y0:=aA hkx 0 (u:=.int .i64 vn) rfl
  have y1:=aA hkx 1 (u:=.int .i64 p) rfl
  have y2:=aA hkx 2 (u:=.int .i64 vf) rfl
  have hqm:q≠c1.mv:=fun e=>hUq (e▸hc1.pv.1)
  have hk6:w6.heap[q]?=some (.cells #[.int .i64 vn,.int .i64 p,.int .i64 vf] 218 (0,0)):=by rw[hg6.block q (aB hkx) (fun e=>hqm (by injection e))];exact hkx
  have z1:=aA hk6 1 (u:=.int .i64 p) rfl
  have hs1:=HH.out.2.1.size
  have hfr6:bV P w w6:=(hfX.drew).trans g4 fun b hb hq=>hq.elim id fun h=>absurd h.1 (by omega)
  have HF:Hid (eV E ns P kb w k (Em.qO s k) (Value.int .i64) (.returned (.int .i64 p)) w6):=by
   refine .inr ⟨p,wased (bB (aQ k vf) p) s (k.vars s) p,rfl,?_,⟨⟨_,g3.mono fun b hb=>?_⟩,?_,gZ HH.out.2.2.1 hfr6.size⟩,hfr6,?_⟩
   ·have:=aK5 (k:=k) (s:=s) (by rw[HV.out];exact HW.out)
    rw[<-HP.out.1,HV.out] at this
    rw[HV.out]
    exact this
   ·rcases hb with hb|hb
    ·exact .inl hb
    ·exact .inr ⟨by omega,by have h1:w1.heap.size≤w6.heap.size:=by { rw[<-hsX];exact g4.size };omega⟩
   ·exact hF1.wased (by omega) (by show (k.vars s).was=-1;rw[HV.out];exact HW.out) HP.out.2.1 (by rw[HV.out];exact hfirst)
   ·show k.net.places≤k.net.places+1;omega
  rw[<-hX]
  clear hX hkx hUq hkeep hc1 hF1 hlt1 hfr1 hcX hfX hsX hm hf hmD hnv hrun hm6 hg6 hfs hcD g3 g4 hk6 hs1 hfr6 h1 hk1 d1 f1 hkept
  go_region
  all_goals
   go_wp2_with fail
   go_ret
   exact HF.out
 ·have t:(vw == -1)=false:=by simpa using hw
  have HF:Hid (eV E ns P kb w k (Em.qO s k) (Value.int .i64) (.returned (.int .i64 vw)) W):=eV.below hlt hbw (by
   have h1:=eV.pure (o:=Em.qO s k) (val:=Value.int .i64) (a:=vw) hCW (by rw[aK6 (by rw[hv];exact hw),hv])
   exact h1)
  clear hc hF hlt hlk hCW hbw hkq hs hv hS hw
  go_enter Tryz.func258,Tryz.ntmps258
  go_upto_region 2 with fail
  rw[<-hW,<-hq]
  clear hW hq c7 hlk'
  go_wp2_with fail
  go_ret
  exact HF.out
end
end Ew
end
section
open Go.RowKit Px
namespace Ew
open Px.Em (Kd Vr)
open Nx (Nt Sp)
section
variable {P A:Nat->Prop}{w:World}{kb E:Nat}{ns:List bA}{k:Kd}
theorem wB {x:Int}(h:dZ E ns P w kb k) (hE:E<1000000) (hx:gQ x) :
    Calls Tryz.prog 145 #[.pointer (some ⟨kb,0,none⟩),.int .i64 x] w fun e w'=>e=.returned (.int .i64 k.net.places)/\Hid ((∃c,CM (Up P w w') w' kb (aQ k x) c/\c.nv+1≤k.net.first.length+1)/\pW (E+1) ns (aQ k x)/\(∀b,Up P w w' b->b<w'.heap.size)/\bV P w w'):=by
 obtain ⟨⟨c,hc⟩,hF,hlt⟩:=h
 obtain ⟨i0,hi,hz0,hz1,hz2⟩:=info_parts bI1
 have hr:w.ownsRow 0 2 1 (c.v 1) k.net.first.length (k.net.first.map (Value.int .i64)):=hc.row 1 (by omega) (by omega)
 obtain ⟨ao,cap,e1⟩:=aL hr
 have c1:=hc.cell 1 (u:=c.v 1) rfl
 have HC:Hid (_/\_/\_):=⟨hc,hF,e1⟩
 rw[e1] at c1 hr
 have hl:=hF.few
 have hp:0≤k.net.places/\k.net.places≤1004000:=by have:=hF.len;omega
 obtain ⟨p,hpp⟩:∃p,p=k.net.places:=⟨_,rfl⟩
 have HP:Hid _:=hpp
 rw[<-hpp] at hp
 have hkk:=hc.hk
 rw[<-hpp] at hkk
 rw[<-hpp]
 obtain ⟨n,hn⟩:∃n,n=k.net.first.length:=⟨_,rfl⟩
 have HN:Hid _:=hn
 rw[<-hn] at c1 hr hl
 obtain ⟨hp0,hp1⟩:=hp
 have lkb:=aB hkk
 have HK:Hid (w.heap[kb]?=some (.cells (c.cells p).toArray 168 (0,0))/\∀g,(Value.slice ao n cap).ownBlock=some g->g≠kb):=⟨hkk,fun g hg e=>by
  have h1:=hc.pr 1 g (by omega) (by omega) (by rw[e1,<-hn];exact hg)
  rw[e,hc.p0.2] at h1;exact absurd h1.2 (by omega)⟩
 have hs1:IntKind.i64.wrap (p+1)=p+1:=by rw[IntKind.wrap_i64];omega
 have hs2:IntKind.i64.wrap (p+1-1)=p:=by rw[IntKind.wrap_i64];omega
 clear hc hF e1 hpp hn hkk
 go_enter Tryz.func145,Tryz.ntmps145
 go_wp2_with (at_builtin;refine wpList_append_own_at _ rfl (.tmp 10) (.tmp 12) 22 rfl 0 2 i0 _ 1 8 Tryz.underlying22 hi hz0 hz1 hz2 rfl (by decide) _ _ _ rfl (hr.alloc _) ⟨w.heap.size,0,none⟩ 1 1 [.int .i64 x] rfl rfl (eN _ _ _) (by intro u hu;simp at hu;subst hu;rfl) (by unfold maxLen;omega) (by omega) (by simp) ?_;intro v5 w5 hown5 hgrow _ hat;obtain ⟨a5,m5,e5⟩:=aL hown5;subst e5;have hk5:w5.heap[kb]?=some (.cells (c.cells p).toArray 168 (0,0)):=by { rw[hgrow.block kb (by simp;omega) (fun e=>(HK.out.2 kb e.symm) rfl),dR HK.out.1] };have d0:=aA hk5 0 (u:=.int .i64 p) rfl;have d1:=aA hk5 1 (u:=c.v 1) rfl;have f0:=aH hk5 0;have f1:=aH hk5 1)
 go_ret
 refine ⟨rfl,?_⟩
 obtain ⟨hC,hF,e1⟩:=HC.out
 rw[<-HN.out] at e1
 obtain ⟨g1,g2⟩:=hC.grow (i:=1) (by omega) (by omega) (w0:=w.alloc (.cells #[.int .i64 x] 2)) (n5:={ k.net with first:=k.net.first++[x] }) (aD _ _) (new:=[.int .i64 x]) (by show World.ownsRow _ _ _ _ _ (k.net.first.length+1) _;rw[<-HN.out];exact hown5) (by rw[e1];exact hgrow) (by rw[e1];exact hat) rfl (fun j hj=>by unfold pH nT;split<;>first|exact absurd rfl hj|exact ⟨rfl,rfl⟩) ⟨by simp[pH],by simp[nT]⟩
 obtain ⟨g3,g4⟩:=g1.setP (p+1)
 have e:aQ k x={ ({ k with net:={ k.net with first:=k.net.first++[x] } }:Kd) with net:={ ({ k with net:={ k.net with first:=k.net.first++[x] } }:Kd).net with places:=p+1 } }:=by rw[HP.out];rfl
 rw[<-e] at g3
 exact ⟨⟨_,g3.mono (Up.size g4.size),Nat.succ_le_succ hC.nv⟩,hF.place hE hx,gZ hlt (g2.trans g4 fun b hb hq=>hq.elim id fun h=>absurd h.1 (by omega)).size,g2.trans g4 fun b hb hq=>hq.elim id fun h=>absurd h.1 (by omega)⟩
theorem aU3 {x:Int}(h:dZ E ns P w kb k) (hE:E<1000000) (hx:gQ x) :
    Calls Tryz.prog 146 #[.pointer (some ⟨kb,0,none⟩),.int .i64 x] w fun e w'=>e=.returned (.int .i64 k.net.places)/\Hid ((∃c,CM (Up P w w') w' kb (bB (aQ k x) k.net.places) c/\c.nv+1≤k.net.first.length+1)/\pW (E+1) ns (bB (aQ k x) k.net.places)/\(∀b,Up P w w' b->b<w'.heap.size)/\bV P w w'):=by
 have hcall:=wB h hE hx
 have HH:Hid (pW E ns k/\∀b,P b->b<w.heap.size):=h.2
 obtain ⟨i0,hi,hz0,hz1,hz2⟩:=info_parts bI0
 obtain ⟨p,hp⟩:∃p,p=k.net.places:=⟨_,rfl⟩
 rw[<-hp] at hcall ⊢
 clear h hp
 go_enter Tryz.func146,Tryz.ntmps146
 go_upto_region 2 with (go_at_call 145;refine hcall.mono ?_;rintro e w1 ⟨rfl,h1⟩)
 obtain ⟨⟨c,hc,hnv⟩,hF,hlt,hfr⟩:=h1.out
 have hr:w1.ownsRow 0 3 1 (c.v 4) (aQ k x).net.keeps.length ((aQ k x).net.keeps.map (Value.int .i64)):=hc.row 4 (by omega) (by omega)
 obtain ⟨ao,cap,e1⟩:=aL hr
 have c1:=hc.cell 4 (u:=c.v 4) rfl
 have HC:Hid (_/\_/\_/\_):=⟨hc,e1,hfr,hnv⟩
 rw[e1] at c1 hr
 have hl:=hF.few
 have hl2:=hF.keeps
 obtain ⟨n,hn⟩:∃n,n=(aQ k x).net.keeps.length:=⟨_,rfl⟩
 have HN:Hid _:=hn
 rw[<-hn] at c1 hr hl2
 have hkk:=hc.hk
 have lkb:=aB hkk
 have HK:Hid (w1.heap[kb]?=some (.cells (c.cells (aQ k x).net.places).toArray 168 (0,0))/\∀g,(Value.slice ao n cap).ownBlock=some g->g≠kb):=⟨hkk,fun g hg e=>by
  have h1:=hc.pr 4 g (by omega) (by omega) (by rw[e1,<-hn];exact hg)
  rw[e,hc.p0.2] at h1;exact absurd h1.2 (by omega)⟩
 have hn6:n≤1004000:=by omega
 clear hc hF e1 hn hkk hl hl2 hfr h1 hcall hnv
 go_wp2_with (at_builtin;refine wpList_append_own_at _ rfl (.tmp 14) (.tmp 16) 23 rfl 0 3 i0 _ 1 8 Tryz.underlying23 hi hz0 hz1 hz2 rfl (by decide) _ _ _ rfl (hr.alloc _) ⟨w1.heap.size,0,none⟩ 1 1 [.int .i64 p] rfl rfl (eN _ _ _) (by intro u hu;simp at hu;subst hu;rfl) (by unfold maxLen;omega) (by omega) (by simp) ?_;intro v5 w5 hown5 hgrow _ hat;obtain ⟨a5,m5,e5⟩:=aL hown5;subst e5;have hk5:w5.heap[kb]?=some (.cells (c.cells (aQ k x).net.places).toArray 168 (0,0)):=by { rw[hgrow.block kb (by simp;omega) (fun e=>(HK.out.2 kb e.symm) rfl),dR HK.out.1] };have d1:=aA hk5 4 (u:=c.v 4) rfl;have f1:=aH hk5 4)
 go_ret
 refine ⟨rfl,?_⟩
 obtain ⟨hC,e1,hfr,hnv⟩:=HC.out
 rw[<-HN.out] at e1
 obtain ⟨g1,g2⟩:=hC.grow (i:=4) (by omega) (by omega) (w0:=w1.alloc (.cells #[.int .i64 p] 3)) (n5:=(bB (aQ k x) p).net) (aD _ _) (new:=[.int .i64 p]) (by show World.ownsRow _ _ _ _ _ ((aQ k x).net.keeps.length+1) _;rw[<-HN.out];exact hown5) (by rw[e1];exact hgrow) (by rw[e1];exact hat) rfl (fun j hj=>by unfold pH nT;split<;>first|exact absurd rfl hj|exact ⟨rfl,rfl⟩) ⟨by simp[pH,bB],by simp[nT,bB]⟩
 exact ⟨⟨_,g1.mono (Up.up hfr.size g2.size),hnv⟩,HH.out.1.kept hE hx,gZ HH.out.2 (hfr.up g2).size,hfr.up g2⟩
theorem bY4 {l:List bH}{v:Value}(h:kZ A w l v) :
    ∃ad g cap,v=.slice ad l.length cap/\l.length≤maxLen/\(0<l.length->ad=some ⟨g,0,none⟩/\A g)/\∀(i:Nat) (a:bH),l[i]?=some a->w.cell? ⟨g,i*3,none⟩=some (.int .i64 (a.kind:Int))/\w.cell? ⟨g,i*3+1,none⟩=some (sv a.name)/\w.cell? ⟨g,i*3+2,none⟩=some (.int .i64 a.first):=by
 obtain ⟨xs,hr,hs⟩:=h
 obtain ⟨ad,g,cap,h1,h2,h3,h4⟩:=tZ.open (k:=3) (fun a c hc=>by rw[show c=_ from hc];rfl) hr hs
 refine ⟨ad,g,cap,h1,h2,fun hp=>⟨(h3 hp).1,(h3 hp).2.1⟩,fun i a hi=>?_⟩
 obtain ⟨c,hc,hx⟩:=h4 i a hi
 obtain rfl:c=_:=hc
 exact ⟨hx 0 _ rfl,hx 1 _ rfl,hx 2 _ rfl⟩
def Co (E:Nat) (ns:List bA) (P:Nat->Prop) (w:World) (kb:Nat) (k:Kd):Prop:=(∃c,CM P w kb k c/\c.nv+1≤k.net.first.length)/\pW E ns k/\(∀b,P b->b<w.heap.size)/\k.net.first.length+ns.length≤k.net.code.length+E
def mC (k:Kd) (p:Int):Kd:={ k with net:={ k.net with ins:=k.net.ins++[p] } }
def kD (k:Kd) (p:Int):Kd:={ k with net:={ k.net with outs:=k.net.outs++[p] } }
def iU (k:Kd) (s:bA) (v:Vr):Kd:={ k with vars:=fun t=>if t=s then v else k.vars t }
theorem U8:wG ns k≤ns.length:=List.length_filter_le _ _
theorem pW.ofPot {k':Kd}(h:pW E ns k) (hp:k.net.first.length+ns.length≤k.net.code.length+E) (e1:k'.net.first=k.net.first) (e2:k'.net.places=k.net.places) (e3:k'.net.code=k.net.code) (e4:k'.net.keeps=k.net.keeps) (e5:k'.net.nums=k.net.nums) (hi:k'.net.ins.length≤k.net.first.length) (ho:k'.net.outs.length≤k.net.first.length) (hv:∀s,gQ (k'.vars s).first) (hn:∀s,s∉ns->(k'.vars s).was≠-1):pW E ns k':=by
 have:=U8 (ns:=ns) (k:=k')
 refine ⟨by rw[e1,e2];exact h.len,by rw[e1,e3];omega,by rw[e3];exact h.code,by rw[e1,e4];exact h.keeps,by rw[e1];exact hi,by rw[e1];exact ho,by rw[e3,e5];exact h.nums,h.e,by rw[e1];exact h.nf,by rw[e5];exact h.nn,hv,hn⟩
theorem Co.put (h:Co E ns P w kb k) {s:bA}{v:Vr}(hs:s.length≤maxLen) (hsn:s∈ns) (hv:gQ v.first) (S:Value) (hS:S=sv s):∃mv w6,w.cell? ⟨kb,7,none⟩=some (.map (some mv))/\(Instr.mapUpdate 166 (.map (some mv)) S (.agg #[.int .i64 v.now,.int .i64 v.was,.int .i64 v.first])).run Tryz.prog w.drew=.ok () w6/\dZ E ns P w6 kb (iU k s v)/\bV P w w6:=by
 obtain ⟨⟨c,hc,hnv⟩,hF,hlt,hpot⟩:=h
 obtain ⟨f,hm,hf⟩:=hc.hv
 have hmD:Gm.Mp Tryz.prog 9 w.drew c.mv c.nv f:=hm.keep rfl
 obtain ⟨w6,hrun,hm6,hg6⟩:=hmD.put qZ Tryz.underlying166 (by have:=hF.few;unfold maxLen;omega) (bC4 hs) (Av v)
 have hcD:CM P w.drew kb k c:=hc.carry fun b hb _=>⟨hb,rfl⟩
 obtain ⟨g3,g4⟩:=hcD.setV (vars':=(iU k s v).vars) hm6 (fun t=>by
  show ((Gm.put f _ _) _).getD _=Av (if t=s then v else k.vars t)
  by_cases hts:t=s
  ·rw[hts,Gm.rG _ (by trivial),if_pos rfl];rfl
  ·rw[Gm.oU _ _ (by intro e;injection e with e;exact hts e),if_neg hts];exact hf t) hg6 (by split<;>omega)
 refine ⟨c.mv,w6,hc.cell 7 rfl,by rw[hS];exact hrun,⟨⟨_,g3⟩,hF.ofPot hpot rfl rfl rfl rfl rfl hF.ins hF.outs (fun t=>?_) (fun t ht=>?_),fun b hb=>Nat.lt_of_lt_of_le (hlt b hb) g4.size⟩,(bV.refl P w).drew.trans g4 fun _ _ h=>h⟩
 ·show gQ (if t=s then v else k.vars t).first
  split
  ·exact hv
  ·exact hF.vf t
 ·show (if t=s then v else k.vars t).was≠-1
  rw[if_neg (fun e:t=s=>ht (e▸hsn))];exact hF.out t ht
end
end Ew
end
end Go.Proofs.YtcdbhoknhnimcaaGreatDoor
