import Derived.Test.YtdeklanmddlgpaaGreatDoorSEzb
import Derived.Test.YtdeklanmddlgpaaGreatDoorSCo2
import Derived.Deep.RegionHeld3
import Derived.Test.YtdeklanmddlgpaaGreatDoorSCs5
set_option maxRecDepth 100000
set_option maxHeartbeats 4000000
namespace Go.Proofs.YtdeklanmddlgpaaGreatDoor
section
open Go.RowKit Px
namespace Ew
open Px.Em (Kd Vr)
open Nx (Nt Sp)
def Ro (A P:Nat->Prop) (w:World):Prop:=∀b,A b->b<w.heap.size/\¬P b
section
variable {P A:Nat->Prop}{w w':World}{kb E:Nat}{ns:List AW}{k:Kd}
theorem Ro.up (h:Ro A P w) (hs:w.heap.size≤w'.heap.size):Ro A (Up P w w') w':=fun b hb=>⟨Nat.lt_of_lt_of_le (h b hb).1 hs,fun hu=>hu.elim (h b hb).2 fun hn=>absurd hn.1 (by have:=(h b hb).1;omega)⟩
theorem Ro.size (h:Ro A P w) (hs:w.heap.size≤w'.heap.size):Ro A P w':=fun b hb=>⟨Nat.lt_of_lt_of_le (h b hb).1 hs,(h b hb).2⟩
theorem Ro.keep (h:Ro A P w) (hf:Ap P w w'):AY A A w w':=hf.keep fun b hb=>(h b hb).2
def Ti (A:Nat->Prop) (kb E:Nat) (ns:List AW) (e:Px.E):Prop:=∀{P:Nat->Prop}{w:World}{k:Kd}{v:Value},DO A w e v->Bg E ns P w kb k->Ro A P w->
 Calls Tryz.prog 234 #[.pointer (some ⟨kb,0,none⟩),v] w (B5 E ns P kb w k (Em.Bl e k) (Value.int .i64))
theorem OO (x y z:Int) (w:World):(Instr.field 218 (.agg #[.int .i64 x,.int .i64 y,.int .i64 z]) 0).run Tryz.prog w=.ok (.int .i64 x) w:=by kernel_rfl
theorem Zk (hE:E<1000000):Ti A kb E ns .nil:=by
 intro P w k v hv h _
 obtain rfl:v=.pointer none:=hv
 have hnum:=Ax (n:=0) h hE Cq.zero
 clear h
 show Calls _ _ _ _ (B5 E ns P kb w k (Em.number 0 k) (Value.int .i64))
 go_enter Tryz.func234,Tryz.ntmps234
 go_wp2_with (go_at_call 235;refine hnum.mono ?_;rintro e w1 (⟨rfl,h0,h1⟩|⟨p,k1,rfl,h0,h1⟩);(· exact ⟨rfl,.inl ⟨rfl,h0,h1⟩⟩))
 go_ret
 exact .inr ⟨p,k1,rfl,h0,h1⟩
section
variable {b o:Nat}{a:Nd}{l r:Px.E}
theorem OU (h:a.code=1):Em.Bl (.node b o a l r) k=Em.number a.num k:=by rw[Em.Bl,if_pos h]
theorem OP (h:a.code=2):Em.Bl (.node b o a l r) k=some ((k.vars a.name).now,k):=by rw[Em.Bl,if_neg (by omega),if_pos h];rfl
theorem OS (h:a.code=3):Em.Bl (.node b o a l r) k=Em.Gq a.name k:=by rw[Em.Bl,if_neg (by omega),if_neg (by omega),if_pos h]
theorem OT (h:a.code=4\/a.code=5):Em.Bl (.node b o a l r) k=(Em.Bl l >>= fun x=>Em.made a.code x 0 0) k:=by rw[Em.Bl,if_neg (by omega),if_neg (by omega),if_neg (by omega),if_pos h]
theorem RK (h1:a.code=0\/16<a.code):Em.Bl (.node b o a l r) k=Em.number 0 k:=by rw[Em.Bl,if_neg (by omega),if_neg (by omega),if_neg (by omega),if_neg (by omega),if_pos (by omega)]
theorem OQ (h1:6≤a.code) (h2:a.code≤16):Em.Bl (.node b o a l r) k=(Em.Bl l >>= fun x=>Em.Bl r >>= fun y=>Em.made a.code x y 0) k:=by rw[Em.Bl,if_neg (by omega),if_neg (by omega),if_neg (by omega),if_neg (by omega),if_neg (by omega)]
end
theorem Xy (hE:E<1000000) {b o:Nat}{a:Nd}{l r:Px.E}(hn:a.name.length≤maxLen) (hx:Cq a.num) (ihl:Ti A kb E ns l) (ihr:Ti A kb E ns r):Ti A kb E ns (.node b o a l r):=by
 intro P w k v hv h hR
 obtain ⟨g,lv,rv,rfl,hAg,hg,hl,hr⟩:=hv
 obtain ⟨pl,rfl⟩:=hl.pt'
 obtain ⟨pr,rfl⟩:=hr.pt'
 obtain ⟨cd,hcd⟩:∃cd:Int,cd=(a.code:Int):=⟨_,rfl⟩
 obtain ⟨S,hS⟩:∃S,Value.string S=sv a.name:=⟨_,rfl⟩
 rw[<-hcd,<-hS] at hg
 have HG:Hid (w.heap[g]?=some (.cells #[.int .i64 cd,.int .i64 a.num,.string S,.pointer pl,.pointer pr] 335 (0,0))/\A g):=⟨hg,hAg⟩
 have g0:=AA hg 0 (u:=.int .i64 cd) rfl
 have HP:Hid (∀b,P b->b<w.heap.size):=h.2.2
 by_cases h1:a.code=1
 ·rw[OU h1]
  have g1:=AA hg 1 (u:=.int .i64 a.num) rfl
  have hnum:=Ax h hE hx
  have t1:(cd==1)=true:=by rw[hcd,h1];rfl
  clear h hR hg hl hr hcd hS ihl ihr h1 hAg
  go_enter Tryz.func234,Tryz.ntmps234
  go_wp2_with (go_at_call 235;refine hnum.mono ?_;rintro e w1 (⟨rfl,h0,h1⟩|⟨p,k1,rfl,h0,h1⟩);(· exact ⟨rfl,.inl ⟨rfl,h0,h1⟩⟩))
  go_ret
  exact .inr ⟨p,k1,rfl,h0,h1⟩
 have t1:(cd==1)=false:=by rw[beq_eq_false_iff_ne];omega
 by_cases h2:a.code=2
 ·rw[OP h2]
  have t2:(cd==2)=true:=by rw[beq_iff_eq];omega
  have g2:=AA hg 2 (u:=.string S) rfl
  obtain ⟨⟨c,hc⟩,hF,hlt⟩:=h
  have c7:=hc.cell 7 (u:=.map (some c.mv)) rfl
  have hlk:∀m,(Instr.lookup 166 (.map (some c.mv)) (.string S) false).run Tryz.prog (w.drewN m)=.ok (.agg #[.int .i64 (k.vars a.name).now,.int .i64 (k.vars a.name).was,.int .i64 (k.vars a.name).first]) (w.drewN m):=fun m=>by
   rw[hS]
   exact (CM.lookV (P:=P) (kb:=kb) (hc.carry (w':=w.drewN m) fun b hb _=>⟨hb,rfl⟩) hn)
  have HF:Hid (∀m,B5 E ns P kb w k (some ((k.vars a.name).now,k)) (Value.int .i64) (.returned (.int .i64 (k.vars a.name).now)) (w.drewN m)):=fun m=>B5.below (w1:=w.drewN m) hlt ⟨rfl,rfl,rfl,Nat.le_refl _,fun _ _=>rfl⟩ (B5.pure ⟨⟨c,hc.carry (w':=w.drewN m) fun b hb _=>⟨hb,rfl⟩⟩,hF,hlt⟩ rfl)
  clear hR hg hl hr hcd hS ihl ihr h1 h2 hAg hc hF hlt
  go_enter Tryz.func234,Tryz.ntmps234
  go_wp2_with fail
  have hlk1:(Instr.lookup 166 (.map (some c.mv)) (.string S) false).run Tryz.prog w.drew=.ok (.agg #[.int .i64 (k.vars a.name).now,.int .i64 (k.vars a.name).was,.int .i64 (k.vars a.name).first]) w.drew:=hlk 1
  clear hlk
  have hfd:=OO
  go_region
  all_goals
   go_wp2_with fail
   go_ret
   exact HF.out 1
 have t2:(cd==2)=false:=by rw[beq_eq_false_iff_ne];omega
 by_cases h3:a.code=3
 ·rw[OS h3]
  have t3:(cd==3)=true:=by rw[beq_iff_eq];omega
  have g2:=AA hg 2 (u:=.string S) rfl
  have hwas:=Wj hn h hE
  rw[<-hS] at hwas
  clear h hR hg hl hr hcd hS ihl ihr h1 h2 h3 hAg
  go_enter Tryz.func234,Tryz.ntmps234
  go_wp2_with (go_at_call 258;refine hwas.mono ?_;rintro e w1 (⟨rfl,h0,h1⟩|⟨p,k1,rfl,h0,h1⟩);(· exact ⟨rfl,.inl ⟨rfl,h0,h1⟩⟩))
  go_ret
  exact .inr ⟨p,k1,rfl,h0,h1⟩
 have t3:(cd==3)=false:=by rw[beq_eq_false_iff_ne];omega
 by_cases h4:a.code=4\/a.code=5
 ·rw[OT h4]
  have HR:Hid (Ro A P w/\(a.code:Int)=cd):=⟨hR,hcd.symm⟩
  have hdr:Below w.heap.size w w.drew:=⟨rfl,rfl,rfl,Nat.le_refl _,fun _ _=>rfl⟩
  have hl':DO A w.drew l (.pointer pl):=DO.carry (w:=w) (w':=w.drew) (A':=A) (fun b hb _=>⟨hb,rfl⟩) hl
  have hcl:=ihl hl' (h.below hdr) (hR.size (Nat.le_refl _))
  have HDR:Hid (Below w.heap.size w w.drew):=hdr
  have g3:=AA hg 3 (u:=.pointer pl) rfl
  have t45:((cd==4)=true)\/((cd==4)=false/\(cd==5)=true):=by
   rcases h4 with h4|h4
   ·left;rw[beq_iff_eq];omega
   ·right;exact ⟨by rw[beq_eq_false_iff_ne];omega,by rw[beq_iff_eq];omega⟩
  clear h hR hg hl hl' hr hcd hS ihl ihr h1 h2 h3 h4 hAg hdr
  rcases t45 with t4|⟨t4,t5⟩
  all_goals
   go_enter Tryz.func234,Tryz.ntmps234
   go_wp2_with fail
   go_region_law (first
    | (go_simp;go_at_call 234;refine hcl.mono ?_;rintro e w1 (⟨rfl,h0,h1⟩|⟨x,k1,rfl,h0,h1⟩);(· exact ⟨rfl,.inl ⟨rfl,AD h0.out,(Ap.of_below HDR.out).trans h1.out fun _ _ h=>h⟩⟩);have hg1:=h1.out.2.1.heap (show w.drew.heap[g]?=_ from HG.out.1) (HR.out.1 g HG.out.2).2;have k0:=AA hg1 0 (u:=.int .i64 cd) rfl;have hmade:=C0 cd x 0 0 h1.out.1 hE;clear hg1)
    | (go_simp;go_at_call 233;refine hmade.mono ?_;rintro e w2 (⟨rfl,h2,h3⟩|⟨p,k2,rfl,h2,h3⟩);(· exact ⟨rfl,B5.below HP.out HDR.out (B5.up (w:=w.drew) HP.out h1.out.2.1 h1.out.2.2 (by rw[bind_some h0.out,HR.out.2]) (.inl ⟨rfl,h2,h3⟩))⟩)))
   all_goals
    go_wp2_with fail
    go_ret
    exact B5.below HP.out HDR.out (B5.up (w:=w.drew) HP.out h1.out.2.1 h1.out.2.2 (by rw[bind_some h0.out,HR.out.2]) (.inr ⟨p,k2,rfl,h2,h3⟩))
 have t4:(cd==4)=false:=by rw[beq_eq_false_iff_ne];omega
 have t5:(cd==5)=false:=by rw[beq_eq_false_iff_ne];omega
 by_cases h5:a.code=0\/16<a.code
 ·rw[RK h5]
  have hnum:=Ax (n:=0) h hE Cq.zero
  have hq:cd<6\/(¬cd<6/\16<cd):=by omega
  clear h hR hg hl hr hcd hS ihl ihr h1 h2 h3 h4 h5 hAg
  rcases hq with hq|⟨hq,hq2⟩
  all_goals
   go_enter Tryz.func234,Tryz.ntmps234
   go_wp2_with (go_at_call 235;refine hnum.mono ?_;rintro e w1 (⟨rfl,h0,h1⟩|⟨p,k1,rfl,h0,h1⟩);(· exact ⟨rfl,.inl ⟨rfl,h0,h1⟩⟩))
   go_ret
   exact .inr ⟨p,k1,rfl,h0,h1⟩
 ·rw[OQ (by omega) (by omega)]
  have hq:¬cd<6:=by omega
  have hq2:¬16<cd:=by omega
  have g3:=AA hg 3 (u:=.pointer pl) rfl
  have hcl:=ihl hl h hR
  have HR:Hid (Ro A P w/\(a.code:Int)=cd/\DO A w r (.pointer pr)/\Ti A kb E ns r):=⟨hR,hcd.symm,hr,ihr⟩
  clear h hR hg hl hr hcd hS ihl ihr h1 h2 h3 h4 h5 hAg
  go_enter Tryz.func234,Tryz.ntmps234
  go_upto_region 16 with (go_at_call 234;refine hcl.mono ?_;rintro e w1 (⟨rfl,h0,h1⟩|⟨x,k1,rfl,h0,h1⟩);(· exact ⟨rfl,.inl ⟨rfl,AD h0.out,h1⟩⟩))
  have hg1:=h1.out.2.1.heap HG.out.1 (HR.out.1 g HG.out.2).2
  have hR1:=HR.out.1.up h1.out.2.1.size
  have k4:=AA hg1 4 (u:=.pointer pr) rfl
  have hcr:=HR.out.2.2.2 (HR.out.2.2.1.carry (HR.out.1.keep h1.out.2.1)) h1.out.1 hR1
  have HG1:Hid (w1.heap[g]?=some (.cells #[.int .i64 cd,.int .i64 a.num,.string S,.pointer pl,.pointer pr] 335 (0,0))/\¬Up P w w1 g):=⟨hg1,(hR1 g HG.out.2).2⟩
  clear hg1 hR1 hcl g0 g3
  go_upto_region 17 with (go_at_call 234;refine hcr.mono ?_;rintro e w2 (⟨rfl,h2,h3⟩|⟨y,k2,rfl,h2,h3⟩);(· exact ⟨rfl,B5.up HP.out h1.out.2.1 h1.out.2.2 (bind_some h0.out) (.inl ⟨rfl,AD h2.out,h3⟩)⟩))
  have hg2:=h3.out.2.1.heap HG1.out.1 HG1.out.2
  have k0:=AA hg2 0 (u:=.int .i64 cd) rfl
  have hmade:=C0 cd x y 0 h3.out.1 hE
  clear hg2 hcr k4
  have e1:Hid ((Em.Bl l >>= fun x=>Em.Bl r >>= fun y=>Em.made a.code x y 0) k=(Em.Bl r >>= fun y=>Em.made a.code x y 0) k1):=bind_some h0.out
  have e2:Hid ((Em.Bl r >>= fun y=>Em.made a.code x y 0) k1=Em.made cd x y 0 k2):=by rw[Hid,bind_some h2.out,HR.out.2.1]
  go_wp2_with (go_at_call 233;refine hmade.mono ?_;rintro e w3 (⟨rfl,h4,h5⟩|⟨p,k3,rfl,h4,h5⟩);(· exact ⟨rfl,B5.up HP.out h1.out.2.1 h1.out.2.2 e1.out (B5.up h1.out.1.2.2 h3.out.2.1 h3.out.2.2 e2.out (.inl ⟨rfl,h4,h5⟩))⟩))
  go_ret
  exact B5.up HP.out h1.out.2.1 h1.out.2.2 e1.out (B5.up h1.out.1.2.2 h3.out.2.1 h3.out.2.2 e2.out (.inr ⟨p,k3,rfl,h4,h5⟩))
theorem Du (hE:E<1000000):∀e:Px.E,Gk e->Ti A kb E ns e:=by
 intro e
 induction e with
 | nil=>intro _;exact Zk hE
 | node b o a l r ihl ihr=>intro h;exact Xy hE h.1 h.2.1 (ihl h.2.2.1) (ihr h.2.2.2)
end
end Ew
end
section
open Go.RowKit Px
namespace Ew
open Px.Em (Kd Vr)
open Nx (Nt Sp)
section
variable {P A:Nat->Prop}{w w':World}{kb E:Nat}{ns:List AW}{k:Kd}
theorem Bg.cellV (h:Bg E ns P w kb k):w.cell? ⟨kb,7,none⟩=some (.map (some (kb-2))):=by
 obtain ⟨⟨c,hc⟩,_⟩:=h
 rw[hc.cell 7 (u:=.map (some c.mv)) rfl,show kb-2=c.mv by have:=hc.mvk;omega]
theorem Bg.lookV (h:Bg E ns P w kb k) {s:AW}(hs:s.length≤maxLen):(Instr.lookup 166 (.map (some (kb-2))) (sv s) false).run Tryz.prog w=.ok (.agg #[.int .i64 (k.vars s).now,.int .i64 (k.vars s).was,.int .i64 (k.vars s).first]) w:=by
 obtain ⟨⟨c,hc⟩,_⟩:=h
 rw[show kb-2=c.mv by have:=hc.mvk;omega]
 exact hc.lookV hs
def Oy (k k':Kd):Prop:=∀s,(k'.vars s).now=(k.vars s).now
theorem Oy.trans {a b c:Kd}(h:Oy a b) (h':Oy b c):Oy a c:=fun s=>(h' s).trans (h s)
theorem J6 {c a b d p:Int}{k':Kd}(h:Em.made c a b d k=some (p,k')):Oy k k':=fun s=>by rw[(LK h).2.2.2.2]
theorem Ga {n p:Int}{k':Kd}(h:Em.number n k=some (p,k')):Oy k k':=by
 cases hn:k.nums n with
 | some q=>rw[Jy hn] at h;injection h with h;injection h with _ h;subst h;exact fun _=>rfl
 | none=>
  cases hm:Em.made 1 k.net.nums.length 0 0 k with
  | none=>rw[Iv hn hm] at h;exact absurd h (by simp)
  | some q=>rw[Iu hn hm] at h;injection h with h;injection h with _ h;subst h;exact fun s=>J6 hm s
theorem Wi {s:AW}{p:Int}{k':Kd}(h:Em.Gq s k=some (p,k')):Oy k k':=by
 by_cases hw:(k.vars s).was=-1
 ·rw[Qs hw] at h
  injection h with h
  injection h with _ h
  subst h
  intro t
  show (if t=s then (⟨(k.vars s).now,k.net.places,(k.vars s).first⟩:Vr) else k.vars t).now=_
  split
  ·rename_i e;rw[e]
  ·rfl
 ·rw[Qt hw] at h;injection h with h;injection h with _ h;subst h;exact fun _=>rfl
theorem Ar {α β:Type}{m:Em.M α}{f:α->Em.M β}{r:β×Kd}(h:(m >>= f) k=some r):∃a k',m k=some (a,k')/\f a k'=some r:=by
 cases hm:m k with
 | none=>rw[AD hm] at h;exact absurd h (by simp)
 | some q=>obtain ⟨a,k'⟩:=q;rw[bind_some hm] at h;exact ⟨a,k',rfl,h⟩
theorem Vs:∀(e:Px.E) {k k':Kd}{p:Int},Em.Bl e k=some (p,k')->Oy k k':=by
 intro e
 induction e with
 | nil=>intro k k' p h;exact Ga h
 | node b o a l r ihl ihr=>
  intro k k' p h
  by_cases h1:a.code=1
  ·rw[OU h1] at h;exact Ga h
  by_cases h2:a.code=2
  ·rw[OP h2] at h;injection h with h;injection h with _ h;subst h;exact fun _=>rfl
  by_cases h3:a.code=3
  ·rw[OS h3] at h;exact Wi h
  by_cases h4:a.code=4\/a.code=5
  ·rw[OT h4] at h
   obtain ⟨x,k1,h5,h6⟩:=Ar h
   exact (ihl h5).trans (J6 h6)
  by_cases h5:a.code=0\/16<a.code
  ·rw[RK h5] at h;exact Ga h
  ·rw[OQ (by omega) (by omega)] at h
   obtain ⟨x,k1,h6,h7⟩:=Ar h
   obtain ⟨y,k2,h8,h9⟩:=Ar h7
   exact ((ihl h6).trans (ihr h8)).trans (J6 h9)
theorem BN {α:Type}{l:List α}{j:Nat}{a:α}(h:l[j]?=some a):l.drop j=a::l.drop (j+1):=by
 obtain ⟨h1,h2⟩:=List.getElem?_eq_some_iff.1 h
 rw[List.drop_eq_getElem_cons h1,h2]
theorem Aj.opn {l:List Cx}{v:Value}(h:Aj A w l v) :
    ∃ad g cap,v=.slice ad l.length cap/\l.length≤maxLen/\(0<l.length->ad=some ⟨g,0,none⟩/\A g/\g<w.heap.size)/\∀(i:Nat) (a:Cx),l[i]?=some a->∃p,w.cell? ⟨g,i*2,none⟩=some (sv a.name)/\w.cell? ⟨g,i*2+1,none⟩=some (.pointer p)/\DO A w a.e (.pointer p):=by
 obtain ⟨xs,hr,hs⟩:=h
 obtain ⟨ad,g,cap,h1,h2,h3,h4⟩:=I9.open (k:=2) (fun a c ⟨p,hc,_⟩=>by rw[hc];rfl) hr hs
 refine ⟨ad,g,cap,h1,h2,h3,fun i a hi=>?_⟩
 obtain ⟨c,⟨p,rfl,hp⟩,hx⟩:=h4 i a hi
 obtain ⟨u,rfl⟩:=hp.pt'
 exact ⟨u,hx 0 _ rfl,hx 1 _ rfl,hp⟩
theorem V6 {so:Int}{a:Cx}{r:List Cx}:Em.O6 so (a::r) k=(Em.Bl a.e >>= fun x=>Em.put (k.vars a.name).now so x >>= fun _=>Em.O6 so r) k:=rfl
theorem Ib {so:Int}{l:List Cx}{v:Value}(hl:Fs ns l) (hv:Aj A w l v) (h:Bg E ns P w kb k) (hR:Ro A P w) (hE:E<1000000) :
    Calls Tryz.prog 236 #[.pointer (some ⟨kb,0,none⟩),.int .i64 so,v] w (B5 E ns P kb w k (Em.Ic so l k) (fun _=>.tuple #[])):=by
 obtain ⟨ad,g,cap,rfl,hmx,hg,hcs⟩:=Aj.opn hv
 by_cases hso:so=-1
 ·have t:(so == -1)=true:=by simpa using hso
  have HF:Hid (B5 E ns P kb w k (Em.Ic so l k) (fun _=>.tuple #[]) (.returned (.tuple #[])) w):=B5.pure (a:=()) (val:=fun _=>.tuple #[]) h (by unfold Em.Ic;rw[if_pos hso];rfl)
  clear hl hv h hR hmx hg hcs hso
  go_enter Tryz.func236,Tryz.ntmps236
  go_wp2_with fail
  go_end0
  exact HF.out
 ·have t:(so == -1)=false:=by simpa using hso
  have hdo:Em.Ic so l k=Em.O6 so l k:=by unfold Em.Ic;rw[if_neg hso]
  rw[hdo]
  obtain ⟨N,hN⟩:∃N,N=l.length:=⟨_,rfl⟩
  rw[<-hN] at hmx hg ⊢
  have HN:Hid (N=l.length):=hN
  have HG:Hid (0<N->ad=some ⟨g,0,none⟩/\A g/\g<w.heap.size):=hg
  have HCS:Hid (∀(i:Nat) (a:Cx),l[i]?=some a->∃p,w.cell? ⟨g,i*2,none⟩=some (sv a.name)/\w.cell? ⟨g,i*2+1,none⟩=some (.pointer p)/\DO A w a.e (.pointer p)):=hcs
  have HL:Hid (Fs ns l):=hl
  have HC:Hid (Bg E ns P w kb k/\Ro A P w):=⟨h,hR⟩
  have hN6:(N:Int)≤9223372036854775807:=by unfold maxLen at hmx;omega
  clear hl hv h hR hmx hg hcs hso hdo hN
  go_enter Tryz.func236,Tryz.ntmps236
  go_wp2_with fail
  go_loopg [12] N (fun f i wr=>∃(j:Nat) (kj:Kd),f=N-j/\j≤N/\i=.int .i64 (j:Int)/\Hid (Em.O6 so l k=Em.O6 so (l.drop j) kj/\Bg E ns (Up P w wr) wr kb kj/\Ap P w wr/\k.net.places≤kj.net.places))
  case atStart=>exact ⟨0,k,by omega,by omega,rfl,rfl,HC.out.1.mono (fun _ h=>.inl h) (fun b hb=>hb.elim (HC.out.1.2.2 b) fun h=>h.2),Ap.refl _ _,Int.le_refl _⟩
  case round=>
   obtain ⟨j,kj,rfl,hj,rfl,hr⟩:=hrel
   by_cases hlt:j<N
   ·obtain ⟨a,ha⟩:∃a,l[j]?=some a:=⟨l[j]'(by rw[<-HN.out];exact hlt),by rw[List.getElem?_eq_getElem]⟩
    obtain ⟨p,c0,c1,he⟩:=HCS.out j a ha
    obtain ⟨hg1,hg2,hg3⟩:=HG.out (by omega)
    have hix:=eK ad g N cap j hlt (fun _=>hg1)
    have hgn:=(HC.out.2 g hg2).2
    obtain ⟨hr1,hr2,hr3,hr4⟩:=hr.out
    have c0:=hr3.cell c0 hgn
    have c1:=hr3.cell c1 hgn
    obtain ⟨h1,h2,h3⟩:=HL.out a (List.mem_of_getElem? ha)
    obtain ⟨S,hS⟩:∃S,Value.string S=sv a.name:=⟨_,rfl⟩
    rw[<-hS] at c0
    obtain ⟨X,hX⟩:∃X,X=wr.alloc (.cells #[.string S,.pointer p] 325):=⟨_,rfl⟩
    obtain ⟨q,hq⟩:∃q,q=wr.heap.size:=⟨_,rfl⟩
    have hbX:Below wr.heap.size wr X:=by rw[hX];exact AC _ _
    have hkX:X.heap[q]?=some (.cells #[.string S,.pointer p] 325 (0,0)):=by rw[hX,hq];exact Aa wr _
    have hbD:Below wr.heap.size wr X.drew:=hbX.drew
    have hCX:=hr2.below hbD
    have hRj:Ro A (Up P w wr) wr:=HC.out.2.up hr3.size
    have hRX:Ro A (Up P w wr) X.drew:=hRj.size hbX.size
    have heX:DO A X.drew a.e (.pointer p):=(he.carry (HC.out.2.keep hr3)).carry fun b hb hl=>⟨hb,hbD.block b hl⟩
    have hcl:=Du (A:=A) (kb:=kb) (ns:=ns) hE a.e h3 heX hCX hRX
    have hqU:¬Up P w wr q:=fun hu=>by have:=hr2.2.2 q hu;omega
    have z7:=hCX.cellV
    have hlk:=hCX.lookV h2
    obtain ⟨nw,hnw⟩:∃nw,nw=(kj.vars a.name).now:=⟨_,rfl⟩
    have HNW:Hid (nw=(kj.vars a.name).now):=hnw
    rw[<-hS,<-hnw] at hlk
    clear hnw
    have x0:=AA hkX 0 (u:=.string S) rfl
    have x1:=AA hkX 1 (u:=.pointer p) rfl
    have z7':X.cell? ⟨kb,7,none⟩=some (.map (some (kb-2))):=z7
    have hfd:=OO
    have HR1:Hid (Em.O6 so l k=Em.O6 so (l.drop j) kj/\Bg E ns (Up P w wr) wr kb kj/\Ap P w wr/\k.net.places≤kj.net.places):=hr.out
    have HX:Hid (Below wr.heap.size wr X.drew/\X.heap[q]?=some (.cells #[.string S,.pointer p] 325 (0,0))/\¬Up P w wr q/\l[j]?=some a/\Value.string S=sv a.name/\a.name.length≤maxLen):=⟨hbD,hkX,hqU,ha,hS,h2⟩
    clear hr hr1 hr2 hr3 hr4 hg1 hg2 hg3 hgn h1 h2 h3 hbX hkX hbD hCX hRj hRX heX hqU z7 he ha hS
    go_upto_region 4 with fail
    rw[<-hX,<-hq]
    clear hX hq hix c0 c1
    have e0:Hid (Em.O6 so l k=(Em.Bl a.e >>= fun x=>Em.put nw so x >>= fun _=>Em.O6 so (l.drop (j+1))) kj):=by rw[Hid,HR1.out.1,BN HX.out.2.2.2.1,HNW.out];exact V6
    go_region_law
     (first
      | (go_simp;go_at_call 234;refine hcl.mono ?_;rintro e w1 (⟨rfl,h0,h1⟩|⟨x,k1,rfl,h0,h1⟩)
         (· exact ⟨rfl,B5.up HC.out.1.2.2 HR1.out.2.2.1 HR1.out.2.2.2 e0.out (B5.below HR1.out.2.1.2.2 HX.out.1 (.inl ⟨rfl,AD h0.out,h1⟩))⟩)
         have hk1:=h1.out.2.1.heap (show X.drew.heap[q]?=_ from HX.out.2.1) HX.out.2.2.1
         have m7:=h1.out.1.cellV
         have m0:=AA hk1 0 (u:=.string S) rfl
         have m1:=AA hk1 1 (u:=.pointer p) rfl
         have hlk1:=h1.out.1.lookV HX.out.2.2.2.2.2
         rw[<-HX.out.2.2.2.2.1,Vs a.e h0.out a.name,<-HNW.out] at hlk1
         have hput:=Ew.MF nw so x h1.out.1
         have e1:Hid ((Em.Bl a.e >>= fun x=>Em.put nw so x >>= fun _=>Em.O6 so (l.drop (j+1))) kj=(Em.put nw so x >>= fun _=>Em.O6 so (l.drop (j+1))) k1):=bind_some h0.out
         clear hk1)
      | (go_simp;go_at_call 242;refine hput.mono ?_;rintro e w2 (⟨rfl,h2,h3⟩|⟨_,k2,rfl,h2,h3⟩)
         (· exact ⟨rfl,B5.up HC.out.1.2.2 HR1.out.2.2.1 HR1.out.2.2.2 e0.out (B5.below HR1.out.2.1.2.2 HX.out.1 (B5.up (fun b hb=>Nat.lt_of_lt_of_le (HR1.out.2.1.2.2 b hb) HX.out.1.size) h1.out.2.1 h1.out.2.2 e1.out (.inl ⟨rfl,AD h2.out,h3⟩)))⟩)))
    all_goals
     have hs1:=HX.out.1.size
     have hs2:=h1.out.2.1.size
     have hs3:=h3.out.2.1.size
     have hfr:Ap P w w2:=HR1.out.2.2.1.up (((Ap.of_below HX.out.1).trans h1.out.2.1 fun _ _ h=>h).trans h3.out.2.1 fun b hb hu=>hu.elim id fun h=>absurd h.1 (by omega))
     have HN2:Hid (Em.O6 so l k=Em.O6 so (l.drop (j+1)) k2/\Bg E ns (Up P w w2) w2 kb k2/\Ap P w w2/\k.net.places≤k2.net.places):=by
      refine ⟨by rw[e0.out,e1.out,bind_some h2.out],h3.out.1.mono (fun b hb=>?_) (Cz HC.out.1.2.2 hfr.size),hfr,by have:=HR1.out.2.2.2;have:=h1.out.2.2;have:=h3.out.2.2;omega⟩
      have:=HR1.out.2.2.1.size
      rcases hb with ((hb|hb)|hb)|hb
      ·exact .inl hb
      ·exact .inr ⟨hb.1,by omega⟩
      ·exact .inr ⟨by omega,by omega⟩
      ·exact .inr ⟨by omega,hb.2⟩
     clear hs1 hs2 hs3 hfr h0 h1 h2 h3 hput hcl hlk hlk1
     go_wp2_with fail
     go_roundg (N-(j+1))
     case measure=>omega
     case rel=>exact ⟨j+1,k2,rfl,by omega,by go_num,HN2.out⟩
   ·obtain rfl:j=N:=by omega
    obtain ⟨hr1,hr2,hr3,hr4⟩:=hr.out
    have HF:Hid (B5 E ns P kb w k (Em.O6 so l k) (fun _=>.tuple #[]) (.returned (.tuple #[])) wr):=.inr ⟨(),kj,rfl,by rw[Hid,hr1,HN.out,List.drop_length];rfl,hr2,hr3,hr4⟩
    clear hr hr1 hr2 hr3 hr4
    go_wp2_with fail
    go_end0
    exact HF.out
end
end Ew
end
section
open Go.RowKit Px
namespace Ew
open Px.Em (Kd Vr Bn Bo DM Rg)
open Nx (Nt Sp)
structure Kp (A:Nat->Prop) (w:World) (gW o:Nat) (y:Bn):Prop where
 d:∃gy oy p q,w.cell? ⟨gW,o,none⟩=some (.pointer (some ⟨gy,oy,none⟩))/\A gy/\C9 A w gy oy y.drawn p q
 t:w.cell? ⟨gW,o+1,none⟩=some (.int .i64 y.to)
 l:w.cell? ⟨gW,o+2,none⟩=some (.int .i64 y.left)
def Z9 {ρ:Type}(A:Nat->Prop) (w:World) (RM:ρ->Nat->Prop) (v:Value) (l:List ρ):Prop:=
 ∃ad g cap,v=.slice ad l.length cap/\l.length≤maxLen/\(0<l.length->ad=some ⟨g,0,none⟩/\A g)/\∀j r,l[j]?=some r->∃gr,w.cell? ⟨g,j,none⟩=some (.pointer (some ⟨gr,0,none⟩))/\RM r gr
structure Ii {σ ρ:Type}(A:Nat->Prop) (w:World) (RM:ρ->Nat->Prop) (gS o:Nat) (s:Bo σ ρ) (gd od:Nat):Prop where
 d:w.cell? ⟨gS,o,none⟩=some (.pointer (some ⟨gd,od,none⟩))
 dA:A gd/\A gS
 last:w.cell? ⟨gd,od+2,none⟩=some (.bool s.drawn.last)
 en:∃v,w.cell? ⟨gd,od+3,none⟩=some v/\Aj A w s.drawn.enter v
 du:∃v,w.cell? ⟨gd,od+4,none⟩=some v/\Aj A w s.drawn.during v
 le:∃v,w.cell? ⟨gd,od+5,none⟩=some v/\Aj A w s.drawn.leave v
 re:∃p,w.cell? ⟨gd,od+6,none⟩=some (.pointer p)/\DO A w s.drawn.rests (.pointer p)
 wy:∃ad g cap,w.cell? ⟨gS,o+1,none⟩=some (.slice ad s.ways.length cap)/\s.ways.length≤maxLen/\(0<s.ways.length->ad=some ⟨g,0,none⟩/\A g)/\∀j y,s.ways[j]?=some y->Kp A w g (j*3) y
 iy:∃v,w.cell? ⟨gS,o+2,none⟩=some v/\Z9 A w RM v s.inside
 idle:w.cell? ⟨gS,o+3,none⟩=some (.bool s.idle)
 leaves:w.cell? ⟨gS,o+4,none⟩=some (.bool s.leaves)
def El (A:Nat->Prop) (w:World) (v:Value) (l:List Nat):Prop:=
 ∃ad g cap,v=.slice ad l.length cap/\(0<l.length->ad=some ⟨g,0,none⟩/\A g)/\∀j x:Nat,l[j]?=some x->w.cell? ⟨g,j,none⟩=some (.int .i64 (x:Int))
def Tc {σ ρ:Type}(A:Nat->Prop) (w:World) (RM:ρ->Nat->Prop) (r:DM σ ρ) (g:Nat):Prop:=
 ∃gS ad cap vo,w.heap[g]?=some (.cells #[.slice ad r.states.length cap,vo,.int .i64 r.first,.int .i64 r.there,.bool r.idle,.bool r.leaves] 223 (0,0))/\A g/\(0<r.states.length->ad=some ⟨gS,0,none⟩/\A gS)/\El A w vo r.order/\∀i s,r.states[i]?=some s->∃gd od,Ii A w RM gS (i*5) s gd od
def B4 (A:Nat->Prop):(k:Nat)->World->Rg k->Nat->Prop
 | 0=>fun _ _ _=>False
 | k+1=>fun w r g=>Tc A w (B4 A k w) r g
section
variable {A A':Nat->Prop}{w w':World}{σ ρ:Type}{RM RM':ρ->Nat->Prop}
theorem Ak (k:AY A A' w w') {b o:Nat}{v:Value}(ha:A b) (h:w.cell? ⟨b,o,none⟩=some v):w'.cell? ⟨b,o,none⟩=some v:=by
 rw[World.cell?_of_block (w:=w) (a:=⟨b,o,none⟩) (k b ha (World.block_lt_of_cell? w _ h)).2];exact h
theorem C9.carry (k:AY A A' w w') {gy o:Nat}{y:Wy}{p:Option Addr}{q:Value}(ha:A gy) (h:C9 A w gy o y p q):C9 A' w' gy o y p q:=by
 obtain ⟨h0,h1,h2,h3,h4,h5,h6,h7,h8⟩:=h
 exact ⟨Ak k ha h0,Ak k ha h1,Ak k ha h2,Ak k ha h3,Ak k ha h4,Ak k ha h5,Ak k ha h6,h7.carry k,h8.carry k⟩
theorem Kp.carry (k:AY A A' w w') {gW o:Nat}{y:Bn}(ha:A gW) (h:Kp A w gW o y):Kp A' w' gW o y:=by
 obtain ⟨⟨gy,oy,p,q,h1,h2,h3⟩,h4,h5⟩:=h
 exact ⟨⟨gy,oy,p,q,Ak k ha h1,(k gy h2 (World.block_lt_of_cell? w _ h3.1)).1,C9.carry k h2 h3⟩,Ak k ha h4,Ak k ha h5⟩
theorem Z9.carry (k:AY A A' w w') (hR:∀r g,RM r g->RM' r g) {v:Value}{l:List ρ}(h:Z9 A w RM v l):Z9 A' w' RM' v l:=by
 obtain ⟨ad,g,cap,h1,h2,h3,h4⟩:=h
 refine ⟨ad,g,cap,h1,h2,fun hp=>?_,fun j r hj=>?_⟩
 ·obtain ⟨gr,h5,_⟩:=h4 0 _ (List.getElem?_eq_getElem hp)
  exact ⟨(h3 hp).1,(k g (h3 hp).2 (World.block_lt_of_cell? w _ h5)).1⟩
 ·obtain ⟨gr,h5,h6⟩:=h4 j r hj
  exact ⟨gr,Ak k (h3 (by have:=(List.getElem?_eq_some_iff.1 hj).1;omega)).2 h5,hR r gr h6⟩
theorem Ii.carry (k:AY A A' w w') (hR:∀r g,RM r g->RM' r g) {gS o:Nat}{s:Bo σ ρ}{gd od:Nat}(h:Ii A w RM gS o s gd od):Ii A' w' RM' gS o s gd od:=by
 obtain ⟨d,⟨a1,a2⟩,la,⟨ve,e1,e2⟩,⟨vd,d1,d2⟩,⟨vl,l1,l2⟩,⟨p,p1,p2⟩,⟨aw,gw,cw,w1,w2,w3,w4⟩,⟨vi,i1,i2⟩,id,le⟩:=h
 refine ⟨Ak k a2 d,⟨(k gd a1 (World.block_lt_of_cell? w _ la)).1,(k gS a2 (World.block_lt_of_cell? w _ d)).1⟩,Ak k a1 la,⟨ve,Ak k a1 e1,e2.carry k⟩,⟨vd,Ak k a1 d1,d2.carry k⟩,⟨vl,Ak k a1 l1,l2.carry k⟩,⟨p,Ak k a1 p1,p2.carry k⟩,⟨aw,gw,cw,Ak k a2 w1,w2,fun hp=>?_,fun j y hj=>?_⟩,⟨vi,Ak k a2 i1,i2.carry k hR⟩,Ak k a2 id,Ak k a2 le⟩
 ·have h0:=w4 0 _ (List.getElem?_eq_getElem hp)
  exact ⟨(w3 hp).1,(k gw (w3 hp).2 (World.block_lt_of_cell? w _ h0.t)).1⟩
 ·exact Kp.carry k (w3 (by have:=(List.getElem?_eq_some_iff.1 hj).1;omega)).2 (w4 j y hj)
theorem El.carry (k:AY A A' w w') {v:Value}{l:List Nat}(h:El A w v l):El A' w' v l:=by
 obtain ⟨ad,g,cap,h1,h3,h4⟩:=h
 refine ⟨ad,g,cap,h1,fun hp=>?_,fun j x hj=>?_⟩
 ·have h5:=h4 0 _ (List.getElem?_eq_getElem hp)
  exact ⟨(h3 hp).1,(k g (h3 hp).2 (World.block_lt_of_cell? w _ h5)).1⟩
 ·exact Ak k (h3 (by have:=(List.getElem?_eq_some_iff.1 hj).1;omega)).2 (h4 j x hj)
theorem Tc.carry (k:AY A A' w w') (hR:∀r g,RM r g->RM' r g) {r:DM σ ρ}{g:Nat}(h:Tc A w RM r g):Tc A' w' RM' r g:=by
 obtain ⟨gS,ad,cap,vo,h1,h2,h3,h4,h5⟩:=h
 have k1:=k g h2 (AB h1)
 refine ⟨gS,ad,cap,vo,by rw[k1.2];exact h1,k1.1,fun hp=>?_,h4.carry k,fun i s hi=>?_⟩
 ·obtain ⟨gd,od,h6⟩:=h5 0 _ (List.getElem?_eq_getElem hp)
  exact ⟨(h3 hp).1,(k gS (h3 hp).2 (World.block_lt_of_cell? w _ h6.d)).1⟩
 ·obtain ⟨gd,od,h6⟩:=h5 i s hi
  exact ⟨gd,od,h6.carry k hR⟩
theorem B4.carry:∀(n:Nat) {A A':Nat->Prop}{w w':World},AY A A' w w'->∀(r:Rg n) (g:Nat),B4 A n w r g->B4 A' n w' r g
 | 0,_,_,_,_,_,_,_,h=>h
 | n+1,_,_,_,_,k,_,_,h=>Tc.carry k (B4.carry n k) h
end
structure JS (ns:List AW) (n:Nat) (y:Bn):Prop where
 c:Gk y.drawn.cond
 s:Fs ns y.drawn.sets
 t:0≤y.to/\y.to<n
 m:y.drawn.times≤1000000
structure Ks {σ ρ:Type}(ns:List AW) (n:Nat) (sub:ρ->Prop) (s:Bo σ ρ):Prop where
 en:Fs ns s.drawn.enter
 du:Fs ns s.drawn.during
 le:Fs ns s.drawn.leave
 re:Gk s.drawn.rests
 wy:∀y∈s.ways,JS ns n y
 wl:s.ways.length≤1000000
 il:s.inside.length≤1000000
 sub:∀r∈s.inside,sub r
structure Tn {σ ρ:Type}(ns:List AW) (sub:ρ->Prop) (r:DM σ ρ):Prop where
 n:r.states.length≤1000000
 f:0≤r.first/\r.first<r.states.length
 o:∀i∈r.order,i<r.states.length
 ol:r.order.length≤1000000
 st:∀s∈r.states,Ks ns r.states.length sub s
def Bp (ns:List AW):(k:Nat)->Rg k->Prop
 | 0=>fun _=>True
 | k+1=>fun r=>Tn ns (Bp ns k) r
def At (E:Nat) (ns:List AW) (P:Nat->Prop) (kb:Nat) (w:World) (k:Kd) (wr:World) (kj:Kd):Prop:=Bg E ns (Up P w wr) wr kb kj/\Ap P w wr/\k.net.places≤kj.net.places
section
variable {P A:Nat->Prop}{w wr w2:World}{kb E:Nat}{ns:List AW}{k kj k2:Kd}
theorem At.start (h:Bg E ns P w kb k):At E ns P kb w k w k:=⟨h.mono (fun _ h=>.inl h) (fun b hb=>hb.elim (h.2.2 b) fun h=>h.2),Ap.refl _ _,Int.le_refl _⟩
theorem At.step (hP:∀b,P b->b<w.heap.size) (h:At E ns P kb w k wr kj) (h2:At E ns (Up P w wr) kb wr kj w2 k2):At E ns P kb w k w2 k2:=
 ⟨h2.1.up hP h.2.1.size h2.2.1.size,h.2.1.up h2.2.1,Int.le_trans h.2.2 h2.2.2⟩
theorem At.below (hP:∀b,P b->b<w.heap.size) (h:At E ns P kb w k wr kj) (hb:Below wr.heap.size wr w2):At E ns P kb w k w2 kj:=by
 have hf:Ap P w w2:=h.2.1.trans (Ap.of_below (P:=fun _=>False) hb) fun _ _ h=>h.elim
 exact ⟨(h.1.below hb).mono (Up.size hb.size) (Cz hP hf.size),hf,h.2.2⟩
theorem At.ran {α:Type}{o o2:Option (α×Kd)}{val:α->Value}{e:Ending}(hP:∀b,P b->b<w.heap.size) (h:At E ns P kb w k wr kj) (ho:o=o2) (h2:B5 E ns (Up P w wr) kb wr kj o2 val e w2):B5 E ns P kb w k o val e w2:=B5.up hP h.2.1 h.2.2 ho h2
theorem At.ends {α:Type}{o:Option (α×Kd)}{val:α->Value}{a:α}(h:At E ns P kb w k wr kj) (ho:o=some (a,kj)):B5 E ns P kb w k o val (.returned (val a)) wr:=.inr ⟨a,kj,rfl,ho,h⟩
theorem At.ro (h:At E ns P kb w k wr kj) (hR:Ro A P w):Ro A (Up P w wr) wr:=hR.up h.2.1.size
theorem At.keep (h:At E ns P kb w k wr kj) (hR:Ro A P w):AY A A w wr:=hR.keep h.2.1
theorem VO (ad:Option Addr) (g n cap j:Nat) (hk:j<n) (ha:0<n->ad=some ⟨g,0,none⟩) (w:World):(Instr.indexAt 221 (.slice ad n cap) (.int .i64 (j:Int))).run Tryz.prog w=.ok (.pointer (some ⟨g,j*5,none⟩)) w:=by
 obtain rfl:=ha (by omega)
 rw[run_indexAt_slice _ _ _ _ _ _ _ (by kernel_rfl),if_pos ⟨by omega,by omega⟩]
 have e:(sizeOf (Tryz.prog.elem 221)).run Tryz.prog w=.ok 5 w:=by kernel_rfl
 rw[e]
 simp[Result.andThen,Addr.add]
 try (intro h;exact h.symm)
theorem bD (ad:Option Addr) (g n cap j:Nat) (hk:j<n) (ha:0<n->ad=some ⟨g,0,none⟩) (w:World):(Instr.indexAt 266 (.slice ad n cap) (.int .i64 (j:Int))).run Tryz.prog w=.ok (.pointer (some ⟨g,j*3,none⟩)) w:=by
 obtain rfl:=ha (by omega)
 rw[run_indexAt_slice _ _ _ _ _ _ _ (by kernel_rfl),if_pos ⟨by omega,by omega⟩]
 have e:(sizeOf (Tryz.prog.elem 266)).run Tryz.prog w=.ok 3 w:=by kernel_rfl
 rw[e]
 simp[Result.andThen,Addr.add]
 try (intro h;exact h.symm)
theorem Xj (ad:Option Addr) (g n cap j:Nat) (hk:j<n) (ha:0<n->ad=some ⟨g,0,none⟩) (w:World):(Instr.indexAt 267 (.slice ad n cap) (.int .i64 (j:Int))).run Tryz.prog w=.ok (.pointer (some ⟨g,j,none⟩)) w:=by
 obtain rfl:=ha (by omega)
 rw[run_indexAt_slice _ _ _ _ _ _ _ (by kernel_rfl),if_pos ⟨by omega,by omega⟩]
 have e:(sizeOf (Tryz.prog.elem 267)).run Tryz.prog w=.ok 1 w:=by kernel_rfl
 rw[e]
 simp[Result.andThen,Addr.add]
 try (intro h;exact h.symm)
theorem Pr {σ ρ:Type}{p:Int}{s:Bo σ ρ}{l:List (Bo σ ρ)}{i:Nat}{o:Int}(h:s.drawn.last=true):Em.FN p (s::l) i o k=(Em.is p i >>= fun x=>Em.IR o x >>= fun o'=>Em.FN p l (i+1) o') k:=by rw[Em.FN,if_pos h]
theorem SN {σ ρ:Type}{p:Int}{s:Bo σ ρ}{l:List (Bo σ ρ)}{i:Nat}{o:Int}(h:s.drawn.last=false):Em.FN p (s::l) i o k=Em.FN p l (i+1) o k:=by rw[Em.FN,if_neg (by rw[h];simp)]
theorem SM {σ ρ:Type}{RM:ρ->Nat->Prop}{r:DM σ ρ}{g:Nat}(hr:Tc A w RM r g) (hn:r.states.length≤1000000) (h:Bg E ns P w kb k) (hR:Ro A P w) (hE:E<1000000) :
    Calls Tryz.prog 272 #[.pointer (some ⟨kb,0,none⟩),.pointer (some ⟨g,0,none⟩)] w (B5 E ns P kb w k (Em.over r k) (Value.int .i64)):=by
 obtain ⟨gS,ad,cap,vo,hg,hAg,hS,_,hst⟩:=hr
 obtain ⟨N,hN⟩:∃N,N=r.states.length:=⟨_,rfl⟩
 rw[<-hN] at hg hS hn
 have g0:=AA hg 0 (u:=.slice ad N cap) rfl
 have HN:Hid _:=hN
 have HG:Hid (_/\¬P g):=⟨hg,(hR g hAg).2⟩
 have HS:Hid (0<N->ad=some ⟨gS,0,none⟩/\A gS):=hS
 have HST:Hid _:=hst
 have HC:Hid (_/\_):=⟨h,hR⟩
 have hN6:(N:Int)≤1000000:=by omega
 clear h hR hg hAg hS hst hN
 go_enter Tryz.func272,Tryz.ntmps272
 go_wp2_with fail
 clear g0
 go_loopg [5,12] N (fun f ov i wr=>∃(j:Nat) (o:Int) (kj:Kd),f=N-j/\j≤N/\ov=.int .i64 o/\i=.int .i64 (j:Int)/\Hid (Em.over r k=Em.FN r.there (r.states.drop j) j o kj/\At E ns P kb w k wr kj))
 case atStart=>exact ⟨0,-1,k,by omega,by omega,rfl,rfl,rfl,At.start HC.out.1⟩
 case round=>
  obtain ⟨j,o,kj,rfl,hj,rfl,rfl,hr⟩:=hrel
  by_cases hlt:j<N
  ·obtain ⟨s,hs⟩:∃s,r.states[j]?=some s:=⟨r.states[j]'(by rw[<-HN.out];exact hlt),by rw[List.getElem?_eq_getElem]⟩
   obtain ⟨hr1,hr2⟩:=hr.out
   obtain ⟨gd,od,hse⟩:=HST.out j s hs
   have kp:=hr2.keep HC.out.2
   have hix:=VO ad gS N cap j hlt (fun hp=>(HS.out hp).1)
   have hgr:=hr2.2.1.heap HG.out.1 HG.out.2
   have g0:=AA hgr 0 (u:=.slice ad N cap) rfl
   have g3:=AA hgr 3 (u:=.int .i64 r.there) rfl
   have d0:=Ak kp hse.dA.2 hse.d
   have d1:=Ak kp hse.dA.1 hse.last
   rw[BN hs] at hr1
   have HR1:Hid (_/\_):=⟨hr1,hr2⟩
   cases hl:s.drawn.last with
   | true=>
    rw[hl] at d1
    have his:=MU r.there j (by omega) hr2.1 hE
    have HP:Hid _:=HC.out.1.2.2
    have a0:Hid (At E ns P kb w k wr kj):=hr2
    have e0:Hid (Em.over r k=(Em.is r.there j >>= fun x=>Em.IR o x >>= fun o'=>Em.FN r.there (r.states.drop (j+1)) (j+1) o') kj):=by rw[Hid,HR1.out.1,Pr hl]
    clear hr hr1 hr2 hse kp hgr hl hs HR1
    go_wp2_with (first
     | (go_at_call 204;refine his.mono ?_;rintro e w1 (⟨rfl,h0,h1⟩|⟨x1,k1,rfl,h0,h1⟩);(· exact ⟨rfl,At.ran HP.out a0.out e0.out (.inl ⟨rfl,AD h0.out,h1⟩)⟩);have a1:Hid (At E ns P kb w k w1 k1):=a0.out.step HP.out h1.out;have e1:Hid _:=e0.out.trans (bind_some h0.out);clear h0 h1 his;have hor:=Fe o x1 a1.out.1 hE)
     | (go_at_call 239;refine hor.mono ?_;rintro e w2 (⟨rfl,h0,h1⟩|⟨x2,k2,rfl,h0,h1⟩);(· exact ⟨rfl,At.ran HP.out a1.out e1.out (.inl ⟨rfl,AD h0.out,h1⟩)⟩);have a2:Hid (At E ns P kb w k w2 k2):=a1.out.step HP.out h1.out;have e2:Hid _:=e1.out.trans (bind_some h0.out);clear h0 h1 hor))
    go_roundg (N-(j+1))
    case measure=>omega
    case rel=>exact ⟨j+1,x2,k2,rfl,by omega,rfl,by go_num,e2.out,a2.out⟩
   | false=>
    rw[hl] at d1
    have HN2:Hid (Em.over r k=Em.FN r.there (r.states.drop (j+1)) (j+1) o kj/\_):=⟨by rw[HR1.out.1,SN hl],hr2⟩
    clear hr hr1 hr2 hse kp hgr hl hs
    go_wp2_with fail
    go_roundg (N-(j+1))
    case measure=>omega
    case rel=>exact ⟨j+1,o,kj,rfl,by omega,rfl,by go_num,HN2.out⟩
  ·obtain rfl:j=N:=by omega
   obtain ⟨hr1,hr2⟩:=hr.out
   have HF:Hid (B5 E ns P kb w k (Em.over r k) (Value.int .i64) (.returned (.int .i64 o)) wr):=At.ends hr2 (by rw[hr1,HN.out,List.drop_length];rfl)
   clear hr hr1 hr2
   go_wp2_with fail
   go_ret
   exact HF.out
end
end Ew
end
end Go.Proofs.YtdeklanmddlgpaaGreatDoor
