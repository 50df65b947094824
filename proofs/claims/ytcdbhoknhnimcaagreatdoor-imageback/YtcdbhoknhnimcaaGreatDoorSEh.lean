import Derived.Test.YtcdbhoknhnimcaaGreatDoorSEzb
import Derived.Test.YtcdbhoknhnimcaaGreatDoorSCo2
import Derived.Deep.RegionHeld3
import Derived.Test.YtcdbhoknhnimcaaGreatDoorSCs5
set_option maxRecDepth 100000
set_option maxHeartbeats 4000000
namespace Go.Proofs.YtcdbhoknhnimcaaGreatDoor
section
open Go.RowKit Px
namespace Ew
open Px.Em (Kd Vr)
open Nx (Nt Sp)
def Ro (A P:Nat->Prop) (w:World):Prop:=∀b,A b->b<w.heap.size/\¬P b
section
variable {P A:Nat->Prop}{w w':World}{kb E:Nat}{ns:List bA}{k:Kd}
theorem Ro.up (h:Ro A P w) (hs:w.heap.size≤w'.heap.size):Ro A (Up P w w') w':=fun b hb=>⟨Nat.lt_of_lt_of_le (h b hb).1 hs,fun hu=>hu.elim (h b hb).2 fun hn=>absurd hn.1 (by have:=(h b hb).1;omega)⟩
theorem Ro.size (h:Ro A P w) (hs:w.heap.size≤w'.heap.size):Ro A P w':=fun b hb=>⟨Nat.lt_of_lt_of_le (h b hb).1 hs,(h b hb).2⟩
theorem Ro.keep (h:Ro A P w) (hf:bV P w w'):bD A A w w':=hf.keep fun b hb=>(h b hb).2
def aZ0 (A:Nat->Prop) (kb E:Nat) (ns:List bA) (e:Px.E):Prop:=∀{P:Nat->Prop}{w:World}{k:Kd}{v:Value},iR A w e v->dZ E ns P w kb k->Ro A P w->
 Calls Tryz.prog 234 #[.pointer (some ⟨kb,0,none⟩),v] w (eV E ns P kb w k (Em.eF e k) (Value.int .i64))
theorem Z6 (x y z:Int) (w:World):(Instr.field 218 (.agg #[.int .i64 x,.int .i64 y,.int .i64 z]) 0).run Tryz.prog w=.ok (.int .i64 x) w:=by kernel_rfl
theorem cF2 (hE:E<1000000):aZ0 A kb E ns .nil:=by
 intro P w k v hv h _
 obtain rfl:v=.pointer none:=hv
 have hnum:=cE (n:=0) h hE gQ.zero
 clear h
 show Calls _ _ _ _ (eV E ns P kb w k (Em.number 0 k) (Value.int .i64))
 go_enter Tryz.func234,Tryz.ntmps234
 go_wp2_with (go_at_call 235;refine hnum.mono ?_;rintro e w1 (⟨rfl,h0,h1⟩|⟨p,k1,rfl,h0,h1⟩);(· exact ⟨rfl,.inl ⟨rfl,h0,h1⟩⟩))
 go_ret
 exact .inr ⟨p,k1,rfl,h0,h1⟩
section
variable {b o:Nat}{a:Nd}{l r:Px.E}
theorem Aa (h:a.code=1):Em.eF (.node b o a l r) k=Em.number a.num k:=by rw[Em.eF,if_pos h]
theorem Z7 (h:a.code=2):Em.eF (.node b o a l r) k=some ((k.vars a.name).now,k):=by rw[Em.eF,if_neg (by omega),if_pos h];rfl
theorem Z9 (h:a.code=3):Em.eF (.node b o a l r) k=Em.qO a.name k:=by rw[Em.eF,if_neg (by omega),if_neg (by omega),if_pos h]
theorem cH5 (h:a.code=4\/a.code=5):Em.eF (.node b o a l r) k=(Em.eF l >>= fun x=>Em.made a.code x 0 0) k:=by rw[Em.eF,if_neg (by omega),if_neg (by omega),if_neg (by omega),if_pos h]
theorem aN1 (h1:a.code=0\/16<a.code):Em.eF (.node b o a l r) k=Em.number 0 k:=by rw[Em.eF,if_neg (by omega),if_neg (by omega),if_neg (by omega),if_neg (by omega),if_pos (by omega)]
theorem Z8 (h1:6≤a.code) (h2:a.code≤16):Em.eF (.node b o a l r) k=(Em.eF l >>= fun x=>Em.eF r >>= fun y=>Em.made a.code x y 0) k:=by rw[Em.eF,if_neg (by omega),if_neg (by omega),if_neg (by omega),if_neg (by omega),if_neg (by omega)]
end
theorem bV7 (hE:E<1000000) {b o:Nat}{a:Nd}{l r:Px.E}(hn:a.name.length≤maxLen) (hx:gQ a.num) (ihl:aZ0 A kb E ns l) (ihr:aZ0 A kb E ns r):aZ0 A kb E ns (.node b o a l r):=by
 intro P w k v hv h hR
 obtain ⟨g,lv,rv,rfl,hAg,hg,hl,hr⟩:=hv
 obtain ⟨pl,rfl⟩:=hl.pt'
 obtain ⟨pr,rfl⟩:=hr.pt'
 obtain ⟨cd,hcd⟩:∃cd:Int,cd=(a.code:Int):=⟨_,rfl⟩
 obtain ⟨S,hS⟩:∃S,Value.string S=sv a.name:=⟨_,rfl⟩
 rw[<-hcd,<-hS] at hg
 have HG:Hid (w.heap[g]?=some (.cells #[.int .i64 cd,.int .i64 a.num,.string S,.pointer pl,.pointer pr] 335 (0,0))/\A g):=⟨hg,hAg⟩
 have g0:=aA hg 0 (u:=.int .i64 cd) rfl
 have HP:Hid (∀b,P b->b<w.heap.size):=h.2.2
 by_cases h1:a.code=1
 ·rw[Aa h1]
  have g1:=aA hg 1 (u:=.int .i64 a.num) rfl
  have hnum:=cE h hE hx
  have t1:(cd==1)=true:=by rw[hcd,h1];rfl
  clear h hR hg hl hr hcd hS ihl ihr h1 hAg
  go_enter Tryz.func234,Tryz.ntmps234
  go_wp2_with (go_at_call 235;refine hnum.mono ?_;rintro e w1 (⟨rfl,h0,h1⟩|⟨p,k1,rfl,h0,h1⟩);(· exact ⟨rfl,.inl ⟨rfl,h0,h1⟩⟩))
  go_ret
  exact .inr ⟨p,k1,rfl,h0,h1⟩
 have t1:(cd==1)=false:=by rw[beq_eq_false_iff_ne];omega
 by_cases h2:a.code=2
 ·rw[Z7 h2]
  have t2:(cd==2)=true:=by rw[beq_iff_eq];omega
  have g2:=aA hg 2 (u:=.string S) rfl
  obtain ⟨⟨c,hc⟩,hF,hlt⟩:=h
  have c7:=hc.cell 7 (u:=.map (some c.mv)) rfl
  have hlk:∀m,(Instr.lookup 166 (.map (some c.mv)) (.string S) false).run Tryz.prog (w.drewN m)=.ok (.agg #[.int .i64 (k.vars a.name).now,.int .i64 (k.vars a.name).was,.int .i64 (k.vars a.name).first]) (w.drewN m):=fun m=>by
   rw[hS]
   exact (CM.lookV (P:=P) (kb:=kb) (hc.carry (w':=w.drewN m) fun b hb _=>⟨hb,rfl⟩) hn)
  have HF:Hid (∀m,eV E ns P kb w k (some ((k.vars a.name).now,k)) (Value.int .i64) (.returned (.int .i64 (k.vars a.name).now)) (w.drewN m)):=fun m=>eV.below (w1:=w.drewN m) hlt ⟨rfl,rfl,rfl,Nat.le_refl _,fun _ _=>rfl⟩ (eV.pure ⟨⟨c,hc.carry (w':=w.drewN m) fun b hb _=>⟨hb,rfl⟩⟩,hF,hlt⟩ rfl)
  clear hR hg hl hr hcd hS ihl ihr h1 h2 hAg hc hF hlt
  go_enter Tryz.func234,Tryz.ntmps234
  go_wp2_with fail
  have hlk1:(Instr.lookup 166 (.map (some c.mv)) (.string S) false).run Tryz.prog w.drew=.ok (.agg #[.int .i64 (k.vars a.name).now,.int .i64 (k.vars a.name).was,.int .i64 (k.vars a.name).first]) w.drew:=hlk 1
  clear hlk
  have hfd:=Z6
  go_region
  all_goals
   go_wp2_with fail
   go_ret
   exact HF.out 1
 have t2:(cd==2)=false:=by rw[beq_eq_false_iff_ne];omega
 by_cases h3:a.code=3
 ·rw[Z9 h3]
  have t3:(cd==3)=true:=by rw[beq_iff_eq];omega
  have g2:=aA hg 2 (u:=.string S) rfl
  have hwas:=bP3 hn h hE
  rw[<-hS] at hwas
  clear h hR hg hl hr hcd hS ihl ihr h1 h2 h3 hAg
  go_enter Tryz.func234,Tryz.ntmps234
  go_wp2_with (go_at_call 258;refine hwas.mono ?_;rintro e w1 (⟨rfl,h0,h1⟩|⟨p,k1,rfl,h0,h1⟩);(· exact ⟨rfl,.inl ⟨rfl,h0,h1⟩⟩))
  go_ret
  exact .inr ⟨p,k1,rfl,h0,h1⟩
 have t3:(cd==3)=false:=by rw[beq_eq_false_iff_ne];omega
 by_cases h4:a.code=4\/a.code=5
 ·rw[cH5 h4]
  have HR:Hid (Ro A P w/\(a.code:Int)=cd):=⟨hR,hcd.symm⟩
  have hdr:Below w.heap.size w w.drew:=⟨rfl,rfl,rfl,Nat.le_refl _,fun _ _=>rfl⟩
  have hl':iR A w.drew l (.pointer pl):=iR.carry (w:=w) (w':=w.drew) (A':=A) (fun b hb _=>⟨hb,rfl⟩) hl
  have hcl:=ihl hl' (h.below hdr) (hR.size (Nat.le_refl _))
  have HDR:Hid (Below w.heap.size w w.drew):=hdr
  have g3:=aA hg 3 (u:=.pointer pl) rfl
  have t45:((cd==4)=true)\/((cd==4)=false/\(cd==5)=true):=by
   rcases h4 with h4|h4
   ·left;rw[beq_iff_eq];omega
   ·right;exact ⟨by rw[beq_eq_false_iff_ne];omega,by rw[beq_iff_eq];omega⟩
  clear h hR hg hl hl' hr hcd hS ihl ihr h1 h2 h3 h4 hAg hdr
  rcases t45 with t4|⟨t4,t5⟩
  all_goals
   go_enter Tryz.func234,Tryz.ntmps234
   go_wp2_with fail
   go_region_law (first
    | (go_simp;go_at_call 234;refine hcl.mono ?_;rintro e w1 (⟨rfl,h0,h1⟩|⟨x,k1,rfl,h0,h1⟩);(· exact ⟨rfl,.inl ⟨rfl,aE h0.out,(bV.of_below HDR.out).trans h1.out fun _ _ h=>h⟩⟩);have hg1:=h1.out.2.1.heap (show w.drew.heap[g]?=_ from HG.out.1) (HR.out.1 g HG.out.2).2;have k0:=aA hg1 0 (u:=.int .i64 cd) rfl;have hmade:=hJ cd x 0 0 h1.out.1 hE;clear hg1)
    | (go_simp;go_at_call 233;refine hmade.mono ?_;rintro e w2 (⟨rfl,h2,h3⟩|⟨p,k2,rfl,h2,h3⟩);(· exact ⟨rfl,eV.below HP.out HDR.out (eV.up (w:=w.drew) HP.out h1.out.2.1 h1.out.2.2 (by rw[bind_some h0.out,HR.out.2]) (.inl ⟨rfl,h2,h3⟩))⟩)))
   all_goals
    go_wp2_with fail
    go_ret
    exact eV.below HP.out HDR.out (eV.up (w:=w.drew) HP.out h1.out.2.1 h1.out.2.2 (by rw[bind_some h0.out,HR.out.2]) (.inr ⟨p,k2,rfl,h2,h3⟩))
 have t4:(cd==4)=false:=by rw[beq_eq_false_iff_ne];omega
 have t5:(cd==5)=false:=by rw[beq_eq_false_iff_ne];omega
 by_cases h5:a.code=0\/16<a.code
 ·rw[aN1 h5]
  have hnum:=cE (n:=0) h hE gQ.zero
  have hq:cd<6\/(¬cd<6/\16<cd):=by omega
  clear h hR hg hl hr hcd hS ihl ihr h1 h2 h3 h4 h5 hAg
  rcases hq with hq|⟨hq,hq2⟩
  all_goals
   go_enter Tryz.func234,Tryz.ntmps234
   go_wp2_with (go_at_call 235;refine hnum.mono ?_;rintro e w1 (⟨rfl,h0,h1⟩|⟨p,k1,rfl,h0,h1⟩);(· exact ⟨rfl,.inl ⟨rfl,h0,h1⟩⟩))
   go_ret
   exact .inr ⟨p,k1,rfl,h0,h1⟩
 ·rw[Z8 (by omega) (by omega)]
  have hq:¬cd<6:=by omega
  have hq2:¬16<cd:=by omega
  have g3:=aA hg 3 (u:=.pointer pl) rfl
  have hcl:=ihl hl h hR
  have HR:Hid (Ro A P w/\(a.code:Int)=cd/\iR A w r (.pointer pr)/\aZ0 A kb E ns r):=⟨hR,hcd.symm,hr,ihr⟩
  clear h hR hg hl hr hcd hS ihl ihr h1 h2 h3 h4 h5 hAg
  go_enter Tryz.func234,Tryz.ntmps234
  go_upto_region 16 with (go_at_call 234;refine hcl.mono ?_;rintro e w1 (⟨rfl,h0,h1⟩|⟨x,k1,rfl,h0,h1⟩);(· exact ⟨rfl,.inl ⟨rfl,aE h0.out,h1⟩⟩))
  have hg1:=h1.out.2.1.heap HG.out.1 (HR.out.1 g HG.out.2).2
  have hR1:=HR.out.1.up h1.out.2.1.size
  have k4:=aA hg1 4 (u:=.pointer pr) rfl
  have hcr:=HR.out.2.2.2 (HR.out.2.2.1.carry (HR.out.1.keep h1.out.2.1)) h1.out.1 hR1
  have HG1:Hid (w1.heap[g]?=some (.cells #[.int .i64 cd,.int .i64 a.num,.string S,.pointer pl,.pointer pr] 335 (0,0))/\¬Up P w w1 g):=⟨hg1,(hR1 g HG.out.2).2⟩
  clear hg1 hR1 hcl g0 g3
  go_upto_region 17 with (go_at_call 234;refine hcr.mono ?_;rintro e w2 (⟨rfl,h2,h3⟩|⟨y,k2,rfl,h2,h3⟩);(· exact ⟨rfl,eV.up HP.out h1.out.2.1 h1.out.2.2 (bind_some h0.out) (.inl ⟨rfl,aE h2.out,h3⟩)⟩))
  have hg2:=h3.out.2.1.heap HG1.out.1 HG1.out.2
  have k0:=aA hg2 0 (u:=.int .i64 cd) rfl
  have hmade:=hJ cd x y 0 h3.out.1 hE
  clear hg2 hcr k4
  have e1:Hid ((Em.eF l >>= fun x=>Em.eF r >>= fun y=>Em.made a.code x y 0) k=(Em.eF r >>= fun y=>Em.made a.code x y 0) k1):=bind_some h0.out
  have e2:Hid ((Em.eF r >>= fun y=>Em.made a.code x y 0) k1=Em.made cd x y 0 k2):=by rw[Hid,bind_some h2.out,HR.out.2.1]
  go_wp2_with (go_at_call 233;refine hmade.mono ?_;rintro e w3 (⟨rfl,h4,h5⟩|⟨p,k3,rfl,h4,h5⟩);(· exact ⟨rfl,eV.up HP.out h1.out.2.1 h1.out.2.2 e1.out (eV.up h1.out.1.2.2 h3.out.2.1 h3.out.2.2 e2.out (.inl ⟨rfl,h4,h5⟩))⟩))
  go_ret
  exact eV.up HP.out h1.out.2.1 h1.out.2.2 e1.out (eV.up h1.out.1.2.2 h3.out.2.1 h3.out.2.2 e2.out (.inr ⟨p,k3,rfl,h4,h5⟩))
theorem jW (hE:E<1000000):∀e:Px.E,qK e->aZ0 A kb E ns e:=by
 intro e
 induction e with
 | nil=>intro _;exact cF2 hE
 | node b o a l r ihl ihr=>intro h;exact bV7 hE h.1 h.2.1 (ihl h.2.2.1) (ihr h.2.2.2)
end
end Ew
end
section
open Go.RowKit Px
namespace Ew
open Px.Em (Kd Vr)
open Nx (Nt Sp)
section
variable {P A:Nat->Prop}{w w':World}{kb E:Nat}{ns:List bA}{k:Kd}
theorem dZ.cellV (h:dZ E ns P w kb k):w.cell? ⟨kb,7,none⟩=some (.map (some (kb-2))):=by
 obtain ⟨⟨c,hc⟩,_⟩:=h
 rw[hc.cell 7 (u:=.map (some c.mv)) rfl,show kb-2=c.mv by have:=hc.mvk;omega]
theorem dZ.lookV (h:dZ E ns P w kb k) {s:bA}(hs:s.length≤maxLen):(Instr.lookup 166 (.map (some (kb-2))) (sv s) false).run Tryz.prog w=.ok (.agg #[.int .i64 (k.vars s).now,.int .i64 (k.vars s).was,.int .i64 (k.vars s).first]) w:=by
 obtain ⟨⟨c,hc⟩,_⟩:=h
 rw[show kb-2=c.mv by have:=hc.mvk;omega]
 exact hc.lookV hs
def aA7 (k k':Kd):Prop:=∀s,(k'.vars s).now=(k.vars s).now
theorem aA7.trans {a b c:Kd}(h:aA7 a b) (h':aA7 b c):aA7 a c:=fun s=>(h' s).trans (h s)
theorem wH {c a b d p:Int}{k':Kd}(h:Em.made c a b d k=some (p,k')):aA7 k k':=fun s=>by rw[(yW h).2.2.2.2]
theorem qB {n p:Int}{k':Kd}(h:Em.number n k=some (p,k')):aA7 k k':=by
 cases hn:k.nums n with
 | some q=>rw[bO3 hn] at h;injection h with h;injection h with _ h;subst h;exact fun _=>rfl
 | none=>
  cases hm:Em.made 1 k.net.nums.length 0 0 k with
  | none=>rw[tR hn hm] at h;exact absurd h (by simp)
  | some q=>rw[tQ hn hm] at h;injection h with h;injection h with _ h;subst h;exact fun s=>wH hm s
theorem bP2 {s:bA}{p:Int}{k':Kd}(h:Em.qO s k=some (p,k')):aA7 k k':=by
 by_cases hw:(k.vars s).was=-1
 ·rw[aK5 hw] at h
  injection h with h
  injection h with _ h
  subst h
  intro t
  show (if t=s then (⟨(k.vars s).now,k.net.places,(k.vars s).first⟩:Vr) else k.vars t).now=_
  split
  ·rename_i e;rw[e]
  ·rfl
 ·rw[aK6 hw] at h;injection h with h;injection h with _ h;subst h;exact fun _=>rfl
theorem bX {α β:Type}{m:Em.M α}{f:α->Em.M β}{r:β×Kd}(h:(m >>= f) k=some r):∃a k',m k=some (a,k')/\f a k'=some r:=by
 cases hm:m k with
 | none=>rw[aE hm] at h;exact absurd h (by simp)
 | some q=>obtain ⟨a,k'⟩:=q;rw[bind_some hm] at h;exact ⟨a,k',rfl,h⟩
theorem bK6:∀(e:Px.E) {k k':Kd}{p:Int},Em.eF e k=some (p,k')->aA7 k k':=by
 intro e
 induction e with
 | nil=>intro k k' p h;exact qB h
 | node b o a l r ihl ihr=>
  intro k k' p h
  by_cases h1:a.code=1
  ·rw[Aa h1] at h;exact qB h
  by_cases h2:a.code=2
  ·rw[Z7 h2] at h;injection h with h;injection h with _ h;subst h;exact fun _=>rfl
  by_cases h3:a.code=3
  ·rw[Z9 h3] at h;exact bP2 h
  by_cases h4:a.code=4\/a.code=5
  ·rw[cH5 h4] at h
   obtain ⟨x,k1,h5,h6⟩:=bX h
   exact (ihl h5).trans (wH h6)
  by_cases h5:a.code=0\/16<a.code
  ·rw[aN1 h5] at h;exact qB h
  ·rw[Z8 (by omega) (by omega)] at h
   obtain ⟨x,k1,h6,h7⟩:=bX h
   obtain ⟨y,k2,h8,h9⟩:=bX h7
   exact ((ihl h6).trans (ihr h8)).trans (wH h9)
theorem dK {α:Type}{l:List α}{j:Nat}{a:α}(h:l[j]?=some a):l.drop j=a::l.drop (j+1):=by
 obtain ⟨h1,h2⟩:=List.getElem?_eq_some_iff.1 h
 rw[List.drop_eq_getElem_cons h1,h2]
theorem bP.opn {l:List gX}{v:Value}(h:bP A w l v) :
    ∃ad g cap,v=.slice ad l.length cap/\l.length≤maxLen/\(0<l.length->ad=some ⟨g,0,none⟩/\A g/\g<w.heap.size)/\∀(i:Nat) (a:gX),l[i]?=some a->∃p,w.cell? ⟨g,i*2,none⟩=some (sv a.name)/\w.cell? ⟨g,i*2+1,none⟩=some (.pointer p)/\iR A w a.e (.pointer p):=by
 obtain ⟨xs,hr,hs⟩:=h
 obtain ⟨ad,g,cap,h1,h2,h3,h4⟩:=tZ.open (k:=2) (fun a c ⟨p,hc,_⟩=>by rw[hc];rfl) hr hs
 refine ⟨ad,g,cap,h1,h2,h3,fun i a hi=>?_⟩
 obtain ⟨c,⟨p,rfl,hp⟩,hx⟩:=h4 i a hi
 obtain ⟨u,rfl⟩:=hp.pt'
 exact ⟨u,hx 0 _ rfl,hx 1 _ rfl,hp⟩
theorem bL8 {so:Int}{a:gX}{r:List gX}:Em.Al so (a::r) k=(Em.eF a.e >>= fun x=>Em.put (k.vars a.name).now so x >>= fun _=>Em.Al so r) k:=rfl
theorem tA {so:Int}{l:List gX}{v:Value}(hl:oH ns l) (hv:bP A w l v) (h:dZ E ns P w kb k) (hR:Ro A P w) (hE:E<1000000) :
    Calls Tryz.prog 236 #[.pointer (some ⟨kb,0,none⟩),.int .i64 so,v] w (eV E ns P kb w k (Em.tB so l k) (fun _=>.tuple #[])):=by
 obtain ⟨ad,g,cap,rfl,hmx,hg,hcs⟩:=bP.opn hv
 by_cases hso:so=-1
 ·have t:(so == -1)=true:=by simpa using hso
  have HF:Hid (eV E ns P kb w k (Em.tB so l k) (fun _=>.tuple #[]) (.returned (.tuple #[])) w):=eV.pure (a:=()) (val:=fun _=>.tuple #[]) h (by unfold Em.tB;rw[if_pos hso];rfl)
  clear hl hv h hR hmx hg hcs hso
  go_enter Tryz.func236,Tryz.ntmps236
  go_wp2_with fail
  go_end0
  exact HF.out
 ·have t:(so == -1)=false:=by simpa using hso
  have hdo:Em.tB so l k=Em.Al so l k:=by unfold Em.tB;rw[if_neg hso]
  rw[hdo]
  obtain ⟨N,hN⟩:∃N,N=l.length:=⟨_,rfl⟩
  rw[<-hN] at hmx hg ⊢
  have HN:Hid (N=l.length):=hN
  have HG:Hid (0<N->ad=some ⟨g,0,none⟩/\A g/\g<w.heap.size):=hg
  have HCS:Hid (∀(i:Nat) (a:gX),l[i]?=some a->∃p,w.cell? ⟨g,i*2,none⟩=some (sv a.name)/\w.cell? ⟨g,i*2+1,none⟩=some (.pointer p)/\iR A w a.e (.pointer p)):=hcs
  have HL:Hid (oH ns l):=hl
  have HC:Hid (dZ E ns P w kb k/\Ro A P w):=⟨h,hR⟩
  have hN6:(N:Int)≤9223372036854775807:=by unfold maxLen at hmx;omega
  clear hl hv h hR hmx hg hcs hso hdo hN
  go_enter Tryz.func236,Tryz.ntmps236
  go_wp2_with fail
  go_loopg [12] N (fun f i wr=>∃(j:Nat) (kj:Kd),f=N-j/\j≤N/\i=.int .i64 (j:Int)/\Hid (Em.Al so l k=Em.Al so (l.drop j) kj/\dZ E ns (Up P w wr) wr kb kj/\bV P w wr/\k.net.places≤kj.net.places))
  case atStart=>exact ⟨0,k,by omega,by omega,rfl,rfl,HC.out.1.mono (fun _ h=>.inl h) (fun b hb=>hb.elim (HC.out.1.2.2 b) fun h=>h.2),bV.refl _ _,Int.le_refl _⟩
  case round=>
   obtain ⟨j,kj,rfl,hj,rfl,hr⟩:=hrel
   by_cases hlt:j<N
   ·obtain ⟨a,ha⟩:∃a,l[j]?=some a:=⟨l[j]'(by rw[<-HN.out];exact hlt),by rw[List.getElem?_eq_getElem]⟩
    obtain ⟨p,c0,c1,he⟩:=HCS.out j a ha
    obtain ⟨hg1,hg2,hg3⟩:=HG.out (by omega)
    have hix:=Dj ad g N cap j hlt (fun _=>hg1)
    have hgn:=(HC.out.2 g hg2).2
    obtain ⟨hr1,hr2,hr3,hr4⟩:=hr.out
    have c0:=hr3.cell c0 hgn
    have c1:=hr3.cell c1 hgn
    obtain ⟨h1,h2,h3⟩:=HL.out a (List.mem_of_getElem? ha)
    obtain ⟨S,hS⟩:∃S,Value.string S=sv a.name:=⟨_,rfl⟩
    rw[<-hS] at c0
    obtain ⟨X,hX⟩:∃X,X=wr.alloc (.cells #[.string S,.pointer p] 325):=⟨_,rfl⟩
    obtain ⟨q,hq⟩:∃q,q=wr.heap.size:=⟨_,rfl⟩
    have hbX:Below wr.heap.size wr X:=by rw[hX];exact aD _ _
    have hkX:X.heap[q]?=some (.cells #[.string S,.pointer p] 325 (0,0)):=by rw[hX,hq];exact bF wr _
    have hbD:Below wr.heap.size wr X.drew:=hbX.drew
    have hCX:=hr2.below hbD
    have hRj:Ro A (Up P w wr) wr:=HC.out.2.up hr3.size
    have hRX:Ro A (Up P w wr) X.drew:=hRj.size hbX.size
    have heX:iR A X.drew a.e (.pointer p):=(he.carry (HC.out.2.keep hr3)).carry fun b hb hl=>⟨hb,hbD.block b hl⟩
    have hcl:=jW (A:=A) (kb:=kb) (ns:=ns) hE a.e h3 heX hCX hRX
    have hqU:¬Up P w wr q:=fun hu=>by have:=hr2.2.2 q hu;omega
    have z7:=hCX.cellV
    have hlk:=hCX.lookV h2
    obtain ⟨nw,hnw⟩:∃nw,nw=(kj.vars a.name).now:=⟨_,rfl⟩
    have HNW:Hid (nw=(kj.vars a.name).now):=hnw
    rw[<-hS,<-hnw] at hlk
    clear hnw
    have x0:=aA hkX 0 (u:=.string S) rfl
    have x1:=aA hkX 1 (u:=.pointer p) rfl
    have z7':X.cell? ⟨kb,7,none⟩=some (.map (some (kb-2))):=z7
    have hfd:=Z6
    have HR1:Hid (Em.Al so l k=Em.Al so (l.drop j) kj/\dZ E ns (Up P w wr) wr kb kj/\bV P w wr/\k.net.places≤kj.net.places):=hr.out
    have HX:Hid (Below wr.heap.size wr X.drew/\X.heap[q]?=some (.cells #[.string S,.pointer p] 325 (0,0))/\¬Up P w wr q/\l[j]?=some a/\Value.string S=sv a.name/\a.name.length≤maxLen):=⟨hbD,hkX,hqU,ha,hS,h2⟩
    clear hr hr1 hr2 hr3 hr4 hg1 hg2 hg3 hgn h1 h2 h3 hbX hkX hbD hCX hRj hRX heX hqU z7 he ha hS
    go_upto_region 4 with fail
    rw[<-hX,<-hq]
    clear hX hq hix c0 c1
    have e0:Hid (Em.Al so l k=(Em.eF a.e >>= fun x=>Em.put nw so x >>= fun _=>Em.Al so (l.drop (j+1))) kj):=by rw[Hid,HR1.out.1,dK HX.out.2.2.2.1,HNW.out];exact bL8
    go_region_law
     (first
      | (go_simp;go_at_call 234;refine hcl.mono ?_;rintro e w1 (⟨rfl,h0,h1⟩|⟨x,k1,rfl,h0,h1⟩)
         (· exact ⟨rfl,eV.up HC.out.1.2.2 HR1.out.2.2.1 HR1.out.2.2.2 e0.out (eV.below HR1.out.2.1.2.2 HX.out.1 (.inl ⟨rfl,aE h0.out,h1⟩))⟩)
         have hk1:=h1.out.2.1.heap (show X.drew.heap[q]?=_ from HX.out.2.1) HX.out.2.2.1
         have m7:=h1.out.1.cellV
         have m0:=aA hk1 0 (u:=.string S) rfl
         have m1:=aA hk1 1 (u:=.pointer p) rfl
         have hlk1:=h1.out.1.lookV HX.out.2.2.2.2.2
         rw[<-HX.out.2.2.2.2.1,bK6 a.e h0.out a.name,<-HNW.out] at hlk1
         have hput:=Ew.B0 nw so x h1.out.1
         have e1:Hid ((Em.eF a.e >>= fun x=>Em.put nw so x >>= fun _=>Em.Al so (l.drop (j+1))) kj=(Em.put nw so x >>= fun _=>Em.Al so (l.drop (j+1))) k1):=bind_some h0.out
         clear hk1)
      | (go_simp;go_at_call 242;refine hput.mono ?_;rintro e w2 (⟨rfl,h2,h3⟩|⟨_,k2,rfl,h2,h3⟩)
         (· exact ⟨rfl,eV.up HC.out.1.2.2 HR1.out.2.2.1 HR1.out.2.2.2 e0.out (eV.below HR1.out.2.1.2.2 HX.out.1 (eV.up (fun b hb=>Nat.lt_of_lt_of_le (HR1.out.2.1.2.2 b hb) HX.out.1.size) h1.out.2.1 h1.out.2.2 e1.out (.inl ⟨rfl,aE h2.out,h3⟩)))⟩)))
    all_goals
     have hs1:=HX.out.1.size
     have hs2:=h1.out.2.1.size
     have hs3:=h3.out.2.1.size
     have hfr:bV P w w2:=HR1.out.2.2.1.up (((bV.of_below HX.out.1).trans h1.out.2.1 fun _ _ h=>h).trans h3.out.2.1 fun b hb hu=>hu.elim id fun h=>absurd h.1 (by omega))
     have HN2:Hid (Em.Al so l k=Em.Al so (l.drop (j+1)) k2/\dZ E ns (Up P w w2) w2 kb k2/\bV P w w2/\k.net.places≤k2.net.places):=by
      refine ⟨by rw[e0.out,e1.out,bind_some h2.out],h3.out.1.mono (fun b hb=>?_) (gZ HC.out.1.2.2 hfr.size),hfr,by have:=HR1.out.2.2.2;have:=h1.out.2.2;have:=h3.out.2.2;omega⟩
      have:=HR1.out.2.2.1.size
      rcases hb with ((hb|hb)|hb)|hb
      ·exact .inl hb
      ·exact .inr ⟨hb.1,by omega⟩
      ·exact .inr ⟨by omega,by omega⟩
      ·exact .inr ⟨by omega,hb.2⟩
     clear hs1 hs2 hs3 hfr h0 h1 h2 h3 hput hcl hlk hlk1
     go_wp2_with fail
     go_roundg (N-(j+1))
     case measure=>omega
     case rel=>exact ⟨j+1,k2,rfl,by omega,by go_num,HN2.out⟩
   ·obtain rfl:j=N:=by omega
    obtain ⟨hr1,hr2,hr3,hr4⟩:=hr.out
    have HF:Hid (eV E ns P kb w k (Em.Al so l k) (fun _=>.tuple #[]) (.returned (.tuple #[])) wr):=.inr ⟨(),kj,rfl,by rw[Hid,hr1,HN.out,List.drop_length];rfl,hr2,hr3,hr4⟩
    clear hr hr1 hr2 hr3 hr4
    go_wp2_with fail
    go_end0
    exact HF.out
end
end Ew
end
section
open Go.RowKit Px
namespace Ew
open Px.Em (Kd Vr eH eI iN Rg)
open Nx (Nt Sp)
structure xZ (A:Nat->Prop) (w:World) (gW o:Nat) (y:eH):Prop where
 d:∃gy oy p q,w.cell? ⟨gW,o,none⟩=some (.pointer (some ⟨gy,oy,none⟩))/\A gy/\aP1 A w gy oy y.drawn p q
 t:w.cell? ⟨gW,o+1,none⟩=some (.int .i64 y.to)
 l:w.cell? ⟨gW,o+2,none⟩=some (.int .i64 y.left)
def Ch {ρ:Type}(A:Nat->Prop) (w:World) (RM:ρ->Nat->Prop) (v:Value) (l:List ρ):Prop:=
 ∃ad g cap,v=.slice ad l.length cap/\l.length≤maxLen/\(0<l.length->ad=some ⟨g,0,none⟩/\A g)/\∀j r,l[j]?=some r->∃gr,w.cell? ⟨g,j,none⟩=some (.pointer (some ⟨gr,0,none⟩))/\RM r gr
structure tG {σ ρ:Type}(A:Nat->Prop) (w:World) (RM:ρ->Nat->Prop) (gS o:Nat) (s:eI σ ρ) (gd od:Nat):Prop where
 d:w.cell? ⟨gS,o,none⟩=some (.pointer (some ⟨gd,od,none⟩))
 dA:A gd/\A gS
 last:w.cell? ⟨gd,od+2,none⟩=some (.bool s.drawn.last)
 en:∃v,w.cell? ⟨gd,od+3,none⟩=some v/\bP A w s.drawn.enter v
 du:∃v,w.cell? ⟨gd,od+4,none⟩=some v/\bP A w s.drawn.during v
 le:∃v,w.cell? ⟨gd,od+5,none⟩=some v/\bP A w s.drawn.leave v
 re:∃p,w.cell? ⟨gd,od+6,none⟩=some (.pointer p)/\iR A w s.drawn.rests (.pointer p)
 wy:∃ad g cap,w.cell? ⟨gS,o+1,none⟩=some (.slice ad s.ways.length cap)/\s.ways.length≤maxLen/\(0<s.ways.length->ad=some ⟨g,0,none⟩/\A g)/\∀j y,s.ways[j]?=some y->xZ A w g (j*3) y
 iy:∃v,w.cell? ⟨gS,o+2,none⟩=some v/\Ch A w RM v s.inside
 idle:w.cell? ⟨gS,o+3,none⟩=some (.bool s.idle)
 leaves:w.cell? ⟨gS,o+4,none⟩=some (.bool s.leaves)
def lZ (A:Nat->Prop) (w:World) (v:Value) (l:List Nat):Prop:=
 ∃ad g cap,v=.slice ad l.length cap/\(0<l.length->ad=some ⟨g,0,none⟩/\A g)/\∀j x:Nat,l[j]?=some x->w.cell? ⟨g,j,none⟩=some (.int .i64 (x:Int))
def Ba {σ ρ:Type}(A:Nat->Prop) (w:World) (RM:ρ->Nat->Prop) (r:iN σ ρ) (g:Nat):Prop:=
 ∃gS ad cap vo,w.heap[g]?=some (.cells #[.slice ad r.states.length cap,vo,.int .i64 r.first,.int .i64 r.there,.bool r.idle,.bool r.leaves] 223 (0,0))/\A g/\(0<r.states.length->ad=some ⟨gS,0,none⟩/\A gS)/\lZ A w vo r.order/\∀i s,r.states[i]?=some s->∃gd od,tG A w RM gS (i*5) s gd od
def eT (A:Nat->Prop):(k:Nat)->World->Rg k->Nat->Prop
 | 0=>fun _ _ _=>False
 | k+1=>fun w r g=>Ba A w (eT A k w) r g
section
variable {A A':Nat->Prop}{w w':World}{σ ρ:Type}{RM RM':ρ->Nat->Prop}
theorem bQ (k:bD A A' w w') {b o:Nat}{v:Value}(ha:A b) (h:w.cell? ⟨b,o,none⟩=some v):w'.cell? ⟨b,o,none⟩=some v:=by
 rw[World.cell?_of_block (w:=w) (a:=⟨b,o,none⟩) (k b ha (World.block_lt_of_cell? w _ h)).2];exact h
theorem aP1.carry (k:bD A A' w w') {gy o:Nat}{y:Wy}{p:Option Addr}{q:Value}(ha:A gy) (h:aP1 A w gy o y p q):aP1 A' w' gy o y p q:=by
 obtain ⟨h0,h1,h2,h3,h4,h5,h6,h7,h8⟩:=h
 exact ⟨bQ k ha h0,bQ k ha h1,bQ k ha h2,bQ k ha h3,bQ k ha h4,bQ k ha h5,bQ k ha h6,h7.carry k,h8.carry k⟩
theorem xZ.carry (k:bD A A' w w') {gW o:Nat}{y:eH}(ha:A gW) (h:xZ A w gW o y):xZ A' w' gW o y:=by
 obtain ⟨⟨gy,oy,p,q,h1,h2,h3⟩,h4,h5⟩:=h
 exact ⟨⟨gy,oy,p,q,bQ k ha h1,(k gy h2 (World.block_lt_of_cell? w _ h3.1)).1,aP1.carry k h2 h3⟩,bQ k ha h4,bQ k ha h5⟩
theorem Ch.carry (k:bD A A' w w') (hR:∀r g,RM r g->RM' r g) {v:Value}{l:List ρ}(h:Ch A w RM v l):Ch A' w' RM' v l:=by
 obtain ⟨ad,g,cap,h1,h2,h3,h4⟩:=h
 refine ⟨ad,g,cap,h1,h2,fun hp=>?_,fun j r hj=>?_⟩
 ·obtain ⟨gr,h5,_⟩:=h4 0 _ (List.getElem?_eq_getElem hp)
  exact ⟨(h3 hp).1,(k g (h3 hp).2 (World.block_lt_of_cell? w _ h5)).1⟩
 ·obtain ⟨gr,h5,h6⟩:=h4 j r hj
  exact ⟨gr,bQ k (h3 (by have:=(List.getElem?_eq_some_iff.1 hj).1;omega)).2 h5,hR r gr h6⟩
theorem tG.carry (k:bD A A' w w') (hR:∀r g,RM r g->RM' r g) {gS o:Nat}{s:eI σ ρ}{gd od:Nat}(h:tG A w RM gS o s gd od):tG A' w' RM' gS o s gd od:=by
 obtain ⟨d,⟨a1,a2⟩,la,⟨ve,e1,e2⟩,⟨vd,d1,d2⟩,⟨vl,l1,l2⟩,⟨p,p1,p2⟩,⟨aw,gw,cw,w1,w2,w3,w4⟩,⟨vi,i1,i2⟩,id,le⟩:=h
 refine ⟨bQ k a2 d,⟨(k gd a1 (World.block_lt_of_cell? w _ la)).1,(k gS a2 (World.block_lt_of_cell? w _ d)).1⟩,bQ k a1 la,⟨ve,bQ k a1 e1,e2.carry k⟩,⟨vd,bQ k a1 d1,d2.carry k⟩,⟨vl,bQ k a1 l1,l2.carry k⟩,⟨p,bQ k a1 p1,p2.carry k⟩,⟨aw,gw,cw,bQ k a2 w1,w2,fun hp=>?_,fun j y hj=>?_⟩,⟨vi,bQ k a2 i1,i2.carry k hR⟩,bQ k a2 id,bQ k a2 le⟩
 ·have h0:=w4 0 _ (List.getElem?_eq_getElem hp)
  exact ⟨(w3 hp).1,(k gw (w3 hp).2 (World.block_lt_of_cell? w _ h0.t)).1⟩
 ·exact xZ.carry k (w3 (by have:=(List.getElem?_eq_some_iff.1 hj).1;omega)).2 (w4 j y hj)
theorem lZ.carry (k:bD A A' w w') {v:Value}{l:List Nat}(h:lZ A w v l):lZ A' w' v l:=by
 obtain ⟨ad,g,cap,h1,h3,h4⟩:=h
 refine ⟨ad,g,cap,h1,fun hp=>?_,fun j x hj=>?_⟩
 ·have h5:=h4 0 _ (List.getElem?_eq_getElem hp)
  exact ⟨(h3 hp).1,(k g (h3 hp).2 (World.block_lt_of_cell? w _ h5)).1⟩
 ·exact bQ k (h3 (by have:=(List.getElem?_eq_some_iff.1 hj).1;omega)).2 (h4 j x hj)
theorem Ba.carry (k:bD A A' w w') (hR:∀r g,RM r g->RM' r g) {r:iN σ ρ}{g:Nat}(h:Ba A w RM r g):Ba A' w' RM' r g:=by
 obtain ⟨gS,ad,cap,vo,h1,h2,h3,h4,h5⟩:=h
 have k1:=k g h2 (aB h1)
 refine ⟨gS,ad,cap,vo,by rw[k1.2];exact h1,k1.1,fun hp=>?_,h4.carry k,fun i s hi=>?_⟩
 ·obtain ⟨gd,od,h6⟩:=h5 0 _ (List.getElem?_eq_getElem hp)
  exact ⟨(h3 hp).1,(k gS (h3 hp).2 (World.block_lt_of_cell? w _ h6.d)).1⟩
 ·obtain ⟨gd,od,h6⟩:=h5 i s hi
  exact ⟨gd,od,h6.carry k hR⟩
theorem eT.carry:∀(n:Nat) {A A':Nat->Prop}{w w':World},bD A A' w w'->∀(r:Rg n) (g:Nat),eT A n w r g->eT A' n w' r g
 | 0,_,_,_,_,_,_,_,h=>h
 | n+1,_,_,_,_,k,_,_,h=>Ba.carry k (eT.carry n k) h
end
structure uR (ns:List bA) (n:Nat) (y:eH):Prop where
 c:qK y.drawn.cond
 s:oH ns y.drawn.sets
 t:0≤y.to/\y.to<n
 m:y.drawn.times≤1000000
structure yC {σ ρ:Type}(ns:List bA) (n:Nat) (sub:ρ->Prop) (s:eI σ ρ):Prop where
 en:oH ns s.drawn.enter
 du:oH ns s.drawn.during
 le:oH ns s.drawn.leave
 re:qK s.drawn.rests
 wy:∀y∈s.ways,uR ns n y
 wl:s.ways.length≤1000000
 il:s.inside.length≤1000000
 sub:∀r∈s.inside,sub r
structure Be {σ ρ:Type}(ns:List bA) (sub:ρ->Prop) (r:iN σ ρ):Prop where
 n:r.states.length≤1000000
 f:0≤r.first/\r.first<r.states.length
 o:∀i∈r.order,i<r.states.length
 ol:r.order.length≤1000000
 st:∀s∈r.states,yC ns r.states.length sub s
def eJ (ns:List bA):(k:Nat)->Rg k->Prop
 | 0=>fun _=>True
 | k+1=>fun r=>Be ns (eJ ns k) r
def At (E:Nat) (ns:List bA) (P:Nat->Prop) (kb:Nat) (w:World) (k:Kd) (wr:World) (kj:Kd):Prop:=dZ E ns (Up P w wr) wr kb kj/\bV P w wr/\k.net.places≤kj.net.places
section
variable {P A:Nat->Prop}{w wr w2:World}{kb E:Nat}{ns:List bA}{k kj k2:Kd}
theorem At.start (h:dZ E ns P w kb k):At E ns P kb w k w k:=⟨h.mono (fun _ h=>.inl h) (fun b hb=>hb.elim (h.2.2 b) fun h=>h.2),bV.refl _ _,Int.le_refl _⟩
theorem At.step (hP:∀b,P b->b<w.heap.size) (h:At E ns P kb w k wr kj) (h2:At E ns (Up P w wr) kb wr kj w2 k2):At E ns P kb w k w2 k2:=
 ⟨h2.1.up hP h.2.1.size h2.2.1.size,h.2.1.up h2.2.1,Int.le_trans h.2.2 h2.2.2⟩
theorem At.below (hP:∀b,P b->b<w.heap.size) (h:At E ns P kb w k wr kj) (hb:Below wr.heap.size wr w2):At E ns P kb w k w2 kj:=by
 have hf:bV P w w2:=h.2.1.trans (bV.of_below (P:=fun _=>False) hb) fun _ _ h=>h.elim
 exact ⟨(h.1.below hb).mono (Up.size hb.size) (gZ hP hf.size),hf,h.2.2⟩
theorem At.ran {α:Type}{o o2:Option (α×Kd)}{val:α->Value}{e:Ending}(hP:∀b,P b->b<w.heap.size) (h:At E ns P kb w k wr kj) (ho:o=o2) (h2:eV E ns (Up P w wr) kb wr kj o2 val e w2):eV E ns P kb w k o val e w2:=eV.up hP h.2.1 h.2.2 ho h2
theorem At.ends {α:Type}{o:Option (α×Kd)}{val:α->Value}{a:α}(h:At E ns P kb w k wr kj) (ho:o=some (a,kj)):eV E ns P kb w k o val (.returned (val a)) wr:=.inr ⟨a,kj,rfl,ho,h⟩
theorem At.ro (h:At E ns P kb w k wr kj) (hR:Ro A P w):Ro A (Up P w wr) wr:=hR.up h.2.1.size
theorem At.keep (h:At E ns P kb w k wr kj) (hR:Ro A P w):bD A A w wr:=hR.keep h.2.1
theorem bH7 (ad:Option Addr) (g n cap j:Nat) (hk:j<n) (ha:0<n->ad=some ⟨g,0,none⟩) (w:World):(Instr.indexAt 221 (.slice ad n cap) (.int .i64 (j:Int))).run Tryz.prog w=.ok (.pointer (some ⟨g,j*5,none⟩)) w:=by
 obtain rfl:=ha (by omega)
 rw[run_indexAt_slice _ _ _ _ _ _ _ (by kernel_rfl),if_pos ⟨by omega,by omega⟩]
 have e:(sizeOf (Tryz.prog.elem 221)).run Tryz.prog w=.ok 5 w:=by kernel_rfl
 rw[e]
 simp[Result.andThen,Addr.add]
 try (intro h;exact h.symm)
theorem cL0 (ad:Option Addr) (g n cap j:Nat) (hk:j<n) (ha:0<n->ad=some ⟨g,0,none⟩) (w:World):(Instr.indexAt 266 (.slice ad n cap) (.int .i64 (j:Int))).run Tryz.prog w=.ok (.pointer (some ⟨g,j*3,none⟩)) w:=by
 obtain rfl:=ha (by omega)
 rw[run_indexAt_slice _ _ _ _ _ _ _ (by kernel_rfl),if_pos ⟨by omega,by omega⟩]
 have e:(sizeOf (Tryz.prog.elem 266)).run Tryz.prog w=.ok 3 w:=by kernel_rfl
 rw[e]
 simp[Result.andThen,Addr.add]
 try (intro h;exact h.symm)
theorem bU2 (ad:Option Addr) (g n cap j:Nat) (hk:j<n) (ha:0<n->ad=some ⟨g,0,none⟩) (w:World):(Instr.indexAt 267 (.slice ad n cap) (.int .i64 (j:Int))).run Tryz.prog w=.ok (.pointer (some ⟨g,j,none⟩)) w:=by
 obtain rfl:=ha (by omega)
 rw[run_indexAt_slice _ _ _ _ _ _ _ (by kernel_rfl),if_pos ⟨by omega,by omega⟩]
 have e:(sizeOf (Tryz.prog.elem 267)).run Tryz.prog w=.ok 1 w:=by kernel_rfl
 rw[e]
 simp[Result.andThen,Addr.add]
 try (intro h;exact h.symm)
theorem aF5 {σ ρ:Type}{p:Int}{s:eI σ ρ}{l:List (eI σ ρ)}{i:Nat}{o:Int}(h:s.drawn.last=true):Em.nC p (s::l) i o k=(Em.is p i >>= fun x=>Em.sS o x >>= fun o'=>Em.nC p l (i+1) o') k:=by rw[Em.nC,if_pos h]
theorem aS8 {σ ρ:Type}{p:Int}{s:eI σ ρ}{l:List (eI σ ρ)}{i:Nat}{o:Int}(h:s.drawn.last=false):Em.nC p (s::l) i o k=Em.nC p l (i+1) o k:=by rw[Em.nC,if_neg (by rw[h];simp)]
theorem aS7 {σ ρ:Type}{RM:ρ->Nat->Prop}{r:iN σ ρ}{g:Nat}(hr:Ba A w RM r g) (hn:r.states.length≤1000000) (h:dZ E ns P w kb k) (hR:Ro A P w) (hE:E<1000000) :
    Calls Tryz.prog 272 #[.pointer (some ⟨kb,0,none⟩),.pointer (some ⟨g,0,none⟩)] w (eV E ns P kb w k (Em.over r k) (Value.int .i64)):=by
 obtain ⟨gS,ad,cap,vo,hg,hAg,hS,_,hst⟩:=hr
 obtain ⟨N,hN⟩:∃N,N=r.states.length:=⟨_,rfl⟩
 rw[<-hN] at hg hS hn
 have g0:=aA hg 0 (u:=.slice ad N cap) rfl
 have HN:Hid _:=hN
 have HG:Hid (_/\¬P g):=⟨hg,(hR g hAg).2⟩
 have HS:Hid (0<N->ad=some ⟨gS,0,none⟩/\A gS):=hS
 have HST:Hid _:=hst
 have HC:Hid (_/\_):=⟨h,hR⟩
 have hN6:(N:Int)≤1000000:=by omega
 clear h hR hg hAg hS hst hN
 go_enter Tryz.func272,Tryz.ntmps272
 go_wp2_with fail
 clear g0
 go_loopg [5,12] N (fun f ov i wr=>∃(j:Nat) (o:Int) (kj:Kd),f=N-j/\j≤N/\ov=.int .i64 o/\i=.int .i64 (j:Int)/\Hid (Em.over r k=Em.nC r.there (r.states.drop j) j o kj/\At E ns P kb w k wr kj))
 case atStart=>exact ⟨0,-1,k,by omega,by omega,rfl,rfl,rfl,At.start HC.out.1⟩
 case round=>
  obtain ⟨j,o,kj,rfl,hj,rfl,rfl,hr⟩:=hrel
  by_cases hlt:j<N
  ·obtain ⟨s,hs⟩:∃s,r.states[j]?=some s:=⟨r.states[j]'(by rw[<-HN.out];exact hlt),by rw[List.getElem?_eq_getElem]⟩
   obtain ⟨hr1,hr2⟩:=hr.out
   obtain ⟨gd,od,hse⟩:=HST.out j s hs
   have kp:=hr2.keep HC.out.2
   have hix:=bH7 ad gS N cap j hlt (fun hp=>(HS.out hp).1)
   have hgr:=hr2.2.1.heap HG.out.1 HG.out.2
   have g0:=aA hgr 0 (u:=.slice ad N cap) rfl
   have g3:=aA hgr 3 (u:=.int .i64 r.there) rfl
   have d0:=bQ kp hse.dA.2 hse.d
   have d1:=bQ kp hse.dA.1 hse.last
   rw[dK hs] at hr1
   have HR1:Hid (_/\_):=⟨hr1,hr2⟩
   cases hl:s.drawn.last with
   | true=>
    rw[hl] at d1
    have his:=D9 r.there j (by omega) hr2.1 hE
    have HP:Hid _:=HC.out.1.2.2
    have a0:Hid (At E ns P kb w k wr kj):=hr2
    have e0:Hid (Em.over r k=(Em.is r.there j >>= fun x=>Em.sS o x >>= fun o'=>Em.nC r.there (r.states.drop (j+1)) (j+1) o') kj):=by rw[Hid,HR1.out.1,aF5 hl]
    clear hr hr1 hr2 hse kp hgr hl hs HR1
    go_wp2_with (first
     | (go_at_call 204;refine his.mono ?_;rintro e w1 (⟨rfl,h0,h1⟩|⟨x1,k1,rfl,h0,h1⟩);(· exact ⟨rfl,At.ran HP.out a0.out e0.out (.inl ⟨rfl,aE h0.out,h1⟩)⟩);have a1:Hid (At E ns P kb w k w1 k1):=a0.out.step HP.out h1.out;have e1:Hid _:=e0.out.trans (bind_some h0.out);clear h0 h1 his;have hor:=nV o x1 a1.out.1 hE)
     | (go_at_call 239;refine hor.mono ?_;rintro e w2 (⟨rfl,h0,h1⟩|⟨x2,k2,rfl,h0,h1⟩);(· exact ⟨rfl,At.ran HP.out a1.out e1.out (.inl ⟨rfl,aE h0.out,h1⟩)⟩);have a2:Hid (At E ns P kb w k w2 k2):=a1.out.step HP.out h1.out;have e2:Hid _:=e1.out.trans (bind_some h0.out);clear h0 h1 hor))
    go_roundg (N-(j+1))
    case measure=>omega
    case rel=>exact ⟨j+1,x2,k2,rfl,by omega,rfl,by go_num,e2.out,a2.out⟩
   | false=>
    rw[hl] at d1
    have HN2:Hid (Em.over r k=Em.nC r.there (r.states.drop (j+1)) (j+1) o kj/\_):=⟨by rw[HR1.out.1,aS8 hl],hr2⟩
    clear hr hr1 hr2 hse kp hgr hl hs
    go_wp2_with fail
    go_roundg (N-(j+1))
    case measure=>omega
    case rel=>exact ⟨j+1,o,kj,rfl,by omega,rfl,by go_num,HN2.out⟩
  ·obtain rfl:j=N:=by omega
   obtain ⟨hr1,hr2⟩:=hr.out
   have HF:Hid (eV E ns P kb w k (Em.over r k) (Value.int .i64) (.returned (.int .i64 o)) wr):=At.ends hr2 (by rw[hr1,HN.out,List.drop_length];rfl)
   clear hr hr1 hr2
   go_wp2_with fail
   go_ret
   exact HF.out
end
end Ew
end
end Go.Proofs.YtcdbhoknhnimcaaGreatDoor
