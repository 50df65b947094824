import Derived.Test.YtcdbhoknhnimcaaGreatDoorTFa
import Derived.Test.YtcdbhoknhnimcaaGreatDoorTEa
import Derived.Test.YtcdbhoknhnimcaaGreatDoorTCk2
import Derived.BigQuiet
import Derived.Test.YtcdbhoknhnimcaaGreatDoorTCo2
set_option maxRecDepth 100000
set_option maxHeartbeats 4000000
namespace Go.Proofs.YtcdbhoknhnimcaaGreatDoor
section
open Go.RowKit Px
namespace Ew
open Px.Em (Kd Vr)
open Nx (Nt Sp)
section
variable {P:Nat->Prop}{w:World}{kb E:Nat}{ns:List bB}{k:Kd}
theorem B0 {a b:Int}(h:a=-1\/b=-1):Em.sP a b k=some (-1,k):=by unfold Em.sP;rw[if_pos h];rfl
theorem Sf {a b:Int}(ha:a≠-1) (hb:b≠-1):Em.sP a b k=Em.made 15 a b 0 k:=by unfold Em.sP;rw[if_neg (by rintro (h|h);exact ha h;exact hb h)]
theorem Ul {a b:Int}(h:a=-1):Em.tN a b k=some (b,k):=by unfold Em.tN;rw[if_pos h];rfl
theorem Nv {a b:Int}(ha:a≠-1) (h:b=-1):Em.tN a b k=some (a,k):=by unfold Em.tN;rw[if_neg ha,if_pos h];rfl
theorem Uk {a b:Int}(ha:a≠-1) (hb:b≠-1):Em.tN a b k=Em.made 16 a b 0 k:=by unfold Em.tN;rw[if_neg ha,if_neg hb]
theorem Sa {a b:Int}(h:b=-1):Em.dS a b k=some (a,k):=by unfold Em.dS;rw[if_pos h];rfl
theorem Am {a b:Int}(hb:b≠-1) (h:a=-1\/a=b):Em.dS a b k=some (-1,k):=by unfold Em.dS;rw[if_neg hb,if_pos h];rfl
theorem Wn {a b:Int}(hb:b≠-1) (ha:a≠-1) (hab:a≠b):Em.dS a b k=Em.made 13 b a 0 k:=by unfold Em.dS;rw[if_neg hb,if_neg (by rintro (h|h);exact ha h;exact hab h)]
theorem sO (a b:Int) (h:eG E ns P w kb k) (hE:E<1000000) :
    Calls Tryz.prog 260 #[.pointer (some ⟨kb,0,none⟩),.int .i64 a,.int .i64 b] w (eY E ns P kb w k (Em.sP a b k) (Value.int .i64)):=by
 by_cases ha:a=-1
 ·rw[B0 (.inl ha)]
  have HF:Hid (eY E ns P kb w k (some (-1,k)) (Value.int .i64) (.returned (.int .i64 (-1))) w):=eY.pure h rfl
  have t:(a == -1)=true:=by simpa using ha
  clear ha h
  go_enter Tryz.func260,Tryz.ntmps260
  go_wp2_with fail
  go_ret
  exact HF.out
 ·by_cases hb:b=-1
  ·rw[B0 (.inr hb)]
   have HF:Hid (eY E ns P kb w k (some (-1,k)) (Value.int .i64) (.returned (.int .i64 (-1))) w):=eY.pure h rfl
   have t:(a == -1)=false:=by simpa using ha
   have t2:(b == -1)=true:=by simpa using hb
   clear ha hb h
   go_enter Tryz.func260,Tryz.ntmps260
   go_wp2_with fail
   go_ret
   exact HF.out
  ·rw[Sf ha hb]
   have hmade:=gP 15 a b 0 h hE
   have t:(a == -1)=false:=by simpa using ha
   have t2:(b == -1)=false:=by simpa using hb
   clear ha hb h
   go_enter Tryz.func260,Tryz.ntmps260
   go_wp2_with (go_at_call 233;refine hmade.mono ?_;rintro e w1 (⟨rfl,h0,h1⟩|⟨p,k1,rfl,h0,h1⟩);(· exact ⟨rfl,.inl ⟨rfl,h0,h1⟩⟩))
   go_ret
   exact .inr ⟨p,k1,rfl,h0,h1⟩
theorem oZ (a b:Int) (h:eG E ns P w kb k) (hE:E<1000000) :
    Calls Tryz.prog 239 #[.pointer (some ⟨kb,0,none⟩),.int .i64 a,.int .i64 b] w (eY E ns P kb w k (Em.tN a b k) (Value.int .i64)):=by
 by_cases ha:a=-1
 ·rw[Ul ha]
  have HF:Hid (eY E ns P kb w k (some (b,k)) (Value.int .i64) (.returned (.int .i64 b)) w):=eY.pure h rfl
  have t:(a == -1)=true:=by simpa using ha
  clear ha h
  go_enter Tryz.func239,Tryz.ntmps239
  go_wp2_with fail
  go_ret
  exact HF.out
 ·by_cases hb:b=-1
  ·rw[Nv ha hb]
   have HF:Hid (eY E ns P kb w k (some (a,k)) (Value.int .i64) (.returned (.int .i64 a)) w):=eY.pure h rfl
   have t:(a == -1)=false:=by simpa using ha
   have t2:(b == -1)=true:=by simpa using hb
   clear ha hb h
   go_enter Tryz.func239,Tryz.ntmps239
   go_wp2_with fail
   go_ret
   exact HF.out
  ·rw[Uk ha hb]
   have hmade:=gP 16 a b 0 h hE
   have t:(a == -1)=false:=by simpa using ha
   have t2:(b == -1)=false:=by simpa using hb
   clear ha hb h
   go_enter Tryz.func239,Tryz.ntmps239
   go_wp2_with (go_at_call 233;refine hmade.mono ?_;rintro e w1 (⟨rfl,h0,h1⟩|⟨p,k1,rfl,h0,h1⟩);(· exact ⟨rfl,.inl ⟨rfl,h0,h1⟩⟩))
   go_ret
   exact .inr ⟨p,k1,rfl,h0,h1⟩
theorem nQ (a b:Int) (h:eG E ns P w kb k) (hE:E<1000000) :
    Calls Tryz.prog 232 #[.pointer (some ⟨kb,0,none⟩),.int .i64 a,.int .i64 b] w (eY E ns P kb w k (Em.dS a b k) (Value.int .i64)):=by
 by_cases hb:b=-1
 ·rw[Sa hb]
  have HF:Hid (eY E ns P kb w k (some (a,k)) (Value.int .i64) (.returned (.int .i64 a)) w):=eY.pure h rfl
  have t:(b == -1)=true:=by simpa using hb
  clear hb h
  go_enter Tryz.func232,Tryz.ntmps232
  go_wp2_with fail
  go_ret
  exact HF.out
 ·by_cases ha:a=-1
  ·rw[Am hb (.inl ha)]
   have HF:Hid (eY E ns P kb w k (some (-1,k)) (Value.int .i64) (.returned (.int .i64 (-1))) w):=eY.pure h rfl
   have t:(b == -1)=false:=by simpa using hb
   have t2:(a == -1)=true:=by simpa using ha
   clear ha hb h
   go_enter Tryz.func232,Tryz.ntmps232
   go_wp2_with fail
   go_ret
   exact HF.out
  ·by_cases hab:a=b
   ·rw[Am hb (.inr hab)]
    have HF:Hid (eY E ns P kb w k (some (-1,k)) (Value.int .i64) (.returned (.int .i64 (-1))) w):=eY.pure h rfl
    have t:(b == -1)=false:=by simpa using hb
    have t2:(a == -1)=false:=by simpa using ha
    have t3:(a==b)=true:=by simpa using hab
    clear ha hb h hab
    go_enter Tryz.func232,Tryz.ntmps232
    go_wp2_with fail
    go_ret
    exact HF.out
   ·rw[Wn hb ha hab]
    have hmade:=gP 13 b a 0 h hE
    have t:(b == -1)=false:=by simpa using hb
    have t2:(a == -1)=false:=by simpa using ha
    have t3:(a==b)=false:=by simpa using hab
    clear ha hb h hab
    go_enter Tryz.func232,Tryz.ntmps232
    go_wp2_with (go_at_call 233;refine hmade.mono ?_;rintro e w1 (⟨rfl,h0,h1⟩|⟨p,k1,rfl,h0,h1⟩);(· exact ⟨rfl,.inl ⟨rfl,h0,h1⟩⟩))
    go_ret
    exact .inr ⟨p,k1,rfl,h0,h1⟩
theorem nE (dst so from_:Int) (h:eG E ns P w kb k) :
    Calls Tryz.prog 242 #[.pointer (some ⟨kb,0,none⟩),.int .i64 dst,.int .i64 so,.int .i64 from_] w (eY E ns P kb w k (Em.put dst so from_ k) (fun _=>.tuple #[])):=by
 by_cases hcl:4000≤k.net.code.length
 ·have hadd:=J7 ⟨17,dst,so,from_,dst⟩ h hcl
  clear h
  go_enter Tryz.func242,Tryz.ntmps242
  go_wp2_with (go_at_call 150;refine hadd.mono ?_;rintro e w2 ⟨rfl,h2⟩)
  exact ⟨rfl,.inl ⟨rfl,if_pos hcl,h2⟩⟩
 ·have hadd:=Eo (E:=E) ⟨17,dst,so,from_,dst⟩ h (by omega) h.2.1.e (by omega)
  clear h
  go_enter Tryz.func242,Tryz.ntmps242
  go_wp2_with (go_at_call 150;refine hadd.mono ?_;rintro e w2 ⟨rfl,h2⟩)
  go_end0
  exact .inr ⟨(),_,rfl,if_neg hcl,h2.out.1,h2.out.2,Int.le_refl _⟩
theorem tW (so p:Int) (h:eG E ns P w kb k) (hE:E<1000000) :
    Calls Tryz.prog 237 #[.pointer (some ⟨kb,0,none⟩),.int .i64 so,.int .i64 p] w (eY E ns P kb w k (Em.given so p k) (Value.int .i64)):=by
 have hnum:=dB (n:=0) h hE eF.zero
 have HP:Hid _:=h.2.2
 clear h
 go_enter Tryz.func237,Tryz.ntmps237
 go_wp2_with (first
  | (go_at_call 235;refine hnum.mono ?_;rintro e w1 (⟨rfl,h0,h1⟩|⟨z,k1,rfl,h0,h1⟩);(· exact ⟨rfl,.inl ⟨rfl,aF h0.out,h1⟩⟩);have hmade:=gP 17 so p z h1.out.1 hE;clear hnum)
  | (go_at_call 233;refine hmade.mono ?_;rintro e w2 (⟨rfl,h2,h3⟩|⟨q,k2,rfl,h2,h3⟩);(· exact ⟨rfl,eY.up HP.out h1.out.2.1 h1.out.2.2 (bind_some h0.out) (.inl ⟨rfl,h2,h3⟩)⟩)))
 go_ret
 exact eY.up HP.out h1.out.2.1 h1.out.2.2 (bind_some h0.out) (.inr ⟨q,k2,rfl,h2,h3⟩)
theorem nH (i:Nat) (hi:i≤1000000):Calls Tryz.prog 199 #[.int .i64 (i:Int)] w fun e w'=>e=.returned (.int .i64 ((i:Int)+1))/\w'=w:=by
 go_enter Tryz.func199,Tryz.ntmps199
 go_wp2_with fail
 go_ret
 exact ⟨rfl,rfl⟩
theorem Fl {i:Nat}(hi:i≤1000000):eF ((i:Int)+1):=by unfold eF;omega
theorem G1 (p:Int) (i:Nat) (hi:i≤1000000) (h:eG E ns P w kb k) (hE:E<1000000) :
    Calls Tryz.prog 204 #[.pointer (some ⟨kb,0,none⟩),.int .i64 p,.int .i64 (i:Int)] w (eY E ns P kb w k (Em.is p i k) (Value.int .i64)):=by
 have hnum:=dB (n:=(i:Int)+1) h hE (Fl hi)
 have hno:=nH (w:=w) i hi
 have HP:Hid _:=h.2.2
 clear h
 go_enter Tryz.func204,Tryz.ntmps204
 go_wp2_with (first
  | (go_at_call 199;refine hno.mono ?_;rintro e w0 ⟨rfl,h00⟩;obtain rfl:=h00.symm;clear hno)
  | (go_at_call 235;refine hnum.mono ?_;rintro e w1 (⟨rfl,h0,h1⟩|⟨z,k1,rfl,h0,h1⟩);(· exact ⟨rfl,.inl ⟨rfl,aF h0.out,h1⟩⟩);have hmade:=gP 11 p z 0 h1.out.1 hE;clear hnum)
  | (go_at_call 233;refine hmade.mono ?_;rintro e w2 (⟨rfl,h2,h3⟩|⟨q,k2,rfl,h2,h3⟩);(· exact ⟨rfl,eY.up HP.out h1.out.2.1 h1.out.2.2 (bind_some h0.out) (.inl ⟨rfl,h2,h3⟩)⟩)))
 go_ret
 exact eY.up HP.out h1.out.2.1 h1.out.2.2 (bind_some h0.out) (.inr ⟨q,k2,rfl,h2,h3⟩)
end
end Ew
end
section
open Go.RowKit Px
def rL:E->Prop
 | .nil=>True
 | .node _ _ a l r=>a.name.length≤maxLen/\eF a.num/\rL l/\rL r
def pK (ns:List bB) (l:List iQ):Prop:=∀a∈l,a.name∈ns/\a.name.length≤maxLen/\rL a.e
structure StR {σ:Type}(ns:List bB) (s:cC σ):Prop where
 en:pK ns s.enter
 du:pK ns s.during
 le:pK ns s.leave
 re:rL s.rests
 wy:∀y∈s.ways,rL y.cond/\pK ns y.sets
 wl:s.ways.length≤maxLen
 il:s.regions.length≤maxLen
def qW (ns:List bB):(k:Nat)->List (St k)->Prop
 | 0=>fun _=>True
 | k+1=>fun L=>∀s∈(show List (cC (St k)) from L),StR ns s/\∀r∈s.regions,qW ns k r
def uM:(k:Nat)->List (St k)->Prop
 | 0=>fun _=>False
 | k+1=>fun L=>iS (ρ:=St k) L=1/\Xa (bA (ρ:=St k) L)/\(∀s∈(show List (cC (St k)) from L),∀y∈s.ways,∃t,jK (bA (ρ:=St k) L) y.to=some t)/\List.length L≤1000000/\∀s∈(show List (cC (St k)) from L),s.name.length≤maxLen/\s.ways.length≤1000000/\s.regions.length≤1000000/\(∀y∈s.ways,y.to.length≤maxLen)/\∀r∈s.regions,uM k r
structure Ss (c:fU):Prop where
 vl:c.vars.length≤1000000
 vn:∀v∈c.vars,v.name.length≤maxLen
 rl:c.regions.length≤maxLen
 st:∀L∈c.regions,qW (cD c.vars) 6 L
end
section
open Go.RowKit Px
namespace Ew
open Px.Em (Kd Vr)
open Nx (Nt Sp)
section
variable {P A:Nat->Prop}{w:World}{kb E:Nat}{ns:List bB}{k:Kd}
theorem Ta (w:World):(zeroValue 218).run Tryz.prog w=.ok (He vr0) w:=by kernel_rfl
theorem CM.lookV {c:Cv}(h:CM P w kb k c) {s:bB}(hs:s.length≤maxLen):(Instr.lookup 166 (.map (some c.mv)) (sv s) false).run Tryz.prog w=.ok (He (k.vars s)) w:=by
 obtain ⟨f,hm,hf⟩:=h.hv
 rw[hm.look rV Tryz.underlying166 (Ta w) (Mw hs),hf s]
def wased (k:Kd) (s:bB) (v:Vr) (p:Int):Kd:={ k with vars:=fun t=>if t=s then ⟨v.now,p,v.first⟩ else k.vars t }
theorem Ex {s:bB}(h:(k.vars s).was≠-1):Em.rO s k=some ((k.vars s).was,k):=by
 show (if (k.vars s).was=-1 then _ else (Pure.pure (k.vars s).was:Em.M Int)) k=_
 rw[if_neg h];rfl
theorem Ev {s:bB}(h:(k.vars s).was=-1):Em.rO s k=some (k.net.places,wased (bD (aQ k (k.vars s).first) k.net.places) s (k.vars s) k.net.places):=by
 show (if (k.vars s).was=-1 then _ else (Pure.pure (k.vars s).was:Em.M Int)) k=_
 rw[if_pos h];rfl
theorem Z3 {α:Type}{p q:α->Bool}(hpq:∀a,q a=true->p a=true) {s:α}(hp:p s=true) (hq:q s=false):∀{l:List α},s∈l->(l.filter q).length+1≤(l.filter p).length:=by
 intro l
 induction l with
 | nil=>intro h;simp at h
 | cons a r ih=>
  intro h
  have hr:(r.filter q).length≤(r.filter p).length:=by
   clear ih h
   induction r with
   | nil=>simp
   | cons b r ih=>
    rw[List.filter_cons,List.filter_cons]
    by_cases hb:q b=true
    ·rw[if_pos hb,if_pos (hpq b hb)];simp;omega
    ·rw[if_neg hb];split<;>first|omega|(simp;omega)
  rw[List.filter_cons,List.filter_cons]
  rcases List.mem_cons.1 h with rfl|h
  ·rw[hq,if_neg (by simp),if_pos hp];simp;omega
  ·have:=ih h
   by_cases hb:q a=true
   ·rw[if_pos hb,if_pos (hpq a hb)];simp;omega
   ·rw[if_neg hb];split<;>first|omega|(simp;omega)
theorem qY.wased {s:bB}{p:Int}{v:Vr}(h:qY (E+1) ns k) (hE:E≤1000000) (hw:(k.vars s).was=-1) (hp:p≠-1) (hv:eF v.first):qY E ns (Ew.wased k s v p):=by
 have hs:s∈ns:=by
  by_cases hs:s∈ns
  ·exact hs
  ·exact absurd hw (h.out s hs)
 have hl:xG ns (Ew.wased k s v p)+1≤xG ns k:=Z3 (s:=s) (fun a ha=>by
  simp only[Ew.wased] at ha
  by_cases has:a=s
  ·subst has;simpa using hw
  ·simpa [has] using ha) (by simpa using hw) (by simp[Ew.wased];exact hp) hs
 have:=h.pot
 refine ⟨h.len,?_,h.code,h.keeps,h.ins,h.outs,h.nums,hE,h.nf,h.nn,fun t=>?_,fun t ht=>?_⟩
 ·show k.net.first.length+_≤k.net.code.length+E;omega
 ·show eF (if t=s then (⟨v.now,p,v.first⟩:Vr) else k.vars t).first
  split
  ·exact hv
  ·exact h.vf t
 ·show (if t=s then (⟨v.now,p,v.first⟩:Vr) else k.vars t).was≠-1
  split
  ·exact hp
  ·exact h.out t ht
theorem Te {s:bB}(hs:s.length≤maxLen) (h:eG E ns P w kb k) (hE:E<1000000) :
    Calls Tryz.prog 258 #[.pointer (some ⟨kb,0,none⟩),sv s] w (eY E ns P kb w k (Em.rO s k) (Value.int .i64)):=by
 obtain ⟨⟨c,hc⟩,hF,hlt⟩:=h
 have c7:=hc.cell 7 (u:=.map (some c.mv)) rfl
 have hlk:=hc.lookV hs
 have hfirst:=hF.vf s
 obtain ⟨W,hW⟩:∃W,W=w.alloc (.cells #[.int .i64 (k.vars s).now,.int .i64 (k.vars s).was,.int .i64 (k.vars s).first] 218):=⟨_,rfl⟩
 have hbw:Below w.heap.size w W:=by rw[hW];exact aC _ _
 have hkq:W.heap[w.heap.size]?=some (.cells #[.int .i64 (k.vars s).now,.int .i64 (k.vars s).was,.int .i64 (k.vars s).first] 218 (0,0)):=by rw[hW];exact bE w _
 obtain ⟨q,hq⟩:∃q,q=w.heap.size:=⟨_,rfl⟩
 rw[<-hq] at hkq
 have hCW:eG E ns P W kb k:=eG.below ⟨⟨c,hc⟩,hF,hlt⟩ hbw
 have HH:Hid (_/\_/\_/\_/\_/\_/\¬P q):=⟨hCW,hbw,hlt,hq.symm,hkq,hs,fun hp=>by have:=hlt q hp;omega⟩
 obtain ⟨vn,vw,vf,hv⟩:∃vn vw vf,k.vars s=⟨vn,vw,vf⟩:=⟨_,_,_,rfl⟩
 rw[hv] at hW hkq HH hfirst
 have hlk':(Instr.lookup 166 (.map (some c.mv)) (sv s) false).run Tryz.prog w=.ok (.agg #[.int .i64 vn,.int .i64 vw,.int .i64 vf]) w:=by rw[hlk,hv];rfl
 have x0:=aA hkq 0 (u:=.int .i64 vn) rfl
 have x1:=aA hkq 1 (u:=.int .i64 vw) rfl
 have x2:=aA hkq 2 (u:=.int .i64 vf) rfl
 have HV:Hid _:=hv
 obtain ⟨S,hS⟩:∃S,S=sv s:=⟨_,rfl⟩
 have HS:Hid _:=hS
 rw[<-hS] at hlk' ⊢
 by_cases hw:vw=-1
 ·have hkept:=xO (x:=vf) hCW hE hfirst
  obtain ⟨p,hp⟩:∃p,p=k.net.places:=⟨_,rfl⟩
  have HP:Hid (_/\p≠-1/\_):=⟨hp,by have:=hF.len;omega,hF.len⟩
  rw[<-hp] at hkept
  have t:(vw == -1)=true:=by simpa using hw
  have HW:Hid _:=hw
  clear hc hF hlt hlk hCW hbw hkq hs hv hS hw hp
  go_enter Tryz.func258,Tryz.ntmps258
  go_upto_region 2 with fail
  rw[<-hW,<-hq]
  clear hW hq c7 hlk'
  go_upto_region 4 with (go_at_call 146;refine hkept.mono ?_;rintro e w1 ⟨rfl,h1⟩;have hk1:=h1.out.2.heap HH.out.2.2.2.2.1 HH.out.2.2.2.2.2.2;have d1:=aA hk1 1 (u:=.int .i64 vw) rfl;have f1:=aE hk1 1)
  obtain ⟨X,hX⟩:∃X,X=w1.setCell ⟨q,1,none⟩ (.int .i64 p):=⟨_,rfl⟩
  have hkx:X.heap[q]?=some (.cells #[.int .i64 vn,.int .i64 p,.int .i64 vf] 218 (0,0)):=by rw[hX];exact bQ (l:=[.int .i64 vn,.int .i64 vw,.int .i64 vf]) hk1 1 _
  have hUq:¬Up P W w1 q:=fun hu=>hu.elim HH.out.2.2.2.2.2.2 fun h=>by have:=aB HH.out.2.2.2.2.1;omega
  have hkeep:aX (Up P W w1) (Up P W w1) w1 X:=fun b hb hl=>⟨hb,by rw[hX];exact Below.heap_setCell _ _ _ _ (fun e=>hUq (by have e:b=q:=e;rw[<-e];exact hb))⟩
  obtain ⟨⟨⟨c1,hc1⟩,hF1,hlt1⟩,hfr1⟩:=h1.out
  have hcX:=hc1.carry hkeep
  have hfX:bH P w X:=by rw[hX];exact ((bH.of_below HH.out.2.1).trans hfr1 fun _ _ h=>h).setCell (.inr (by rw[HH.out.2.2.2.1];exact Nat.le_refl _)) _
  have hsX:X.heap.size=w1.heap.size:=by rw[hX];simp[World.setCell]
  obtain ⟨f,hm,hf⟩:=hcX.hv
  have hmD:Gm.Mp Tryz.prog 9 X.drew c1.mv c1.nv f:=hm.keep rfl
  have hnv:c1.nv≤(bD (aQ k vf) p).net.first.length:=hcX.nv
  obtain ⟨w6,hrun,hm6,hg6⟩:=hmD.put rV Tryz.underlying166 (by have:=hF1.few;unfold maxLen;omega) (Mw HH.out.2.2.2.2.2.1) (He ⟨vn,p,vf⟩)
  have hfs:(f (.string s)).isSome=true:=by
   have:=hf s
   show _
   cases hfs:f (.string s) with
   | some v=>rfl
   | none=>
    rw[hfs] at this
    have h2:He vr0=He (k.vars s):=this
    rw[HV.out,HW.out] at h2
    simp[He,vr0] at h2
  rw[hfs,if_pos rfl] at hm6
  have hrun':(Instr.mapUpdate 166 (.map (some c1.mv)) S (.agg #[.int .i64 vn,.int .i64 p,.int .i64 vf])).run Tryz.prog X.drew=.ok () w6:=by rw[HS.out];exact hrun
  have hcD:CM (Up P W w1) X.drew kb (bD (aQ k vf) p) c1:=hcX.carry fun b hb _=>⟨hb,rfl⟩
  obtain ⟨g3,g4⟩:=hcD.setV (vars':=(wased (bD (aQ k vf) p) s (k.vars s) p).vars) hm6 (fun t=>by
   show ((Gm.put f _ _) _).getD _=He (if t=s then ⟨(k.vars s).now,p,(k.vars s).first⟩ else k.vars t)
   by_cases hts:t=s
   ·rw[hts,Gm.lQ _ (by trivial),if_pos rfl,HV.out];rfl
   ·rw[Gm.kB _ _ (by intro e;injection e with e;exact hts e),if_neg hts];exact hf t) hg6 hnv
  have z7:=hcX.cell 7 (u:=.map (some c1.mv)) rfl
  have y0:=aA hkx 0 (u:=.int .i64 vn) rfl
  have y1:=aA hkx 1 (u:=.int .i64 p) rfl
  have y2:=aA hkx 2 (u:=.int .i64 vf) rfl
  have hqm:q≠c1.mv:=fun e=>hUq (e▸hc1.pv.1)
  have hk6:w6.heap[q]?=some (.cells #[.int .i64 vn,.int .i64 p,.int .i64 vf] 218 (0,0)):=by rw[hg6.block q (aB hkx) (fun e=>hqm (by injection e))];exact hkx
  have z1:=aA hk6 1 (u:=.int .i64 p) rfl
  have hs1:=HH.out.2.1.size
  have hfr6:bH P w w6:=(hfX.drew).trans g4 fun b hb hq=>hq.elim id fun h=>absurd h.1 (by omega)
  have HF:Hid (eY E ns P kb w k (Em.rO s k) (Value.int .i64) (.returned (.int .i64 p)) w6):=by
   refine .inr ⟨p,wased (bD (aQ k vf) p) s (k.vars s) p,rfl,?_,⟨⟨_,g3.mono fun b hb=>?_⟩,?_,fL HH.out.2.2.1 hfr6.size⟩,hfr6,?_⟩
   ·have:=Ev (k:=k) (s:=s) (by rw[HV.out];exact HW.out)
    rw[<-HP.out.1,HV.out] at this
    rw[HV.out]
    exact this
   ·rcases hb with hb|hb
    ·exact .inl hb
    ·exact .inr ⟨by omega,by have h1:w1.heap.size≤w6.heap.size:=by { rw[<-hsX];exact g4.size };omega⟩
   ·exact hF1.wased (by omega) (by show (k.vars s).was=-1;rw[HV.out];exact HW.out) HP.out.2.1 (by rw[HV.out];exact hfirst)
   ·show k.net.places≤k.net.places+1;omega
  rw[<-hX]
  clear hX hkx hUq hkeep hc1 hF1 hlt1 hfr1 hcX hfX hsX hm hf hmD hnv hrun hm6 hg6 hfs hcD g3 g4 hk6 hs1 hfr6 h1 hk1 d1 f1 hkept
  go_region
  all_goals
   go_wp2_with fail
   go_ret
   exact HF.out
 ·have t:(vw == -1)=false:=by simpa using hw
  have HF:Hid (eY E ns P kb w k (Em.rO s k) (Value.int .i64) (.returned (.int .i64 vw)) W):=eY.below hlt hbw (by
   have h1:=eY.pure (o:=Em.rO s k) (val:=Value.int .i64) (a:=vw) hCW (by rw[Ex (by rw[hv];exact hw),hv])
   exact h1)
  clear hc hF hlt hlk hCW hbw hkq hs hv hS hw
  go_enter Tryz.func258,Tryz.ntmps258
  go_upto_region 2 with fail
  rw[<-hW,<-hq]
  clear hW hq c7 hlk'
  go_wp2_with fail
  go_ret
  exact HF.out
end
end Ew
end
section
open Go.RowKit Px
namespace Ew
open Px.Em (Kd Vr)
open Nx (Nt Sp)
section
variable {P A:Nat->Prop}{w:World}{kb E:Nat}{ns:List bB}{k:Kd}
theorem xB {x:Int}(h:eG E ns P w kb k) (hE:E<1000000) (hx:eF x) :
    Calls Tryz.prog 145 #[.pointer (some ⟨kb,0,none⟩),.int .i64 x] w fun e w'=>e=.returned (.int .i64 k.net.places)/\Hid ((∃c,CM (Up P w w') w' kb (aQ k x) c/\c.nv+1≤k.net.first.length+1)/\qY (E+1) ns (aQ k x)/\(∀b,Up P w w' b->b<w'.heap.size)/\bH P w w'):=by
 obtain ⟨⟨c,hc⟩,hF,hlt⟩:=h
 obtain ⟨i0,hi,hz0,hz1,hz2⟩:=info_parts Y1
 have hr:w.ownsRow 0 2 1 (c.v 1) k.net.first.length (k.net.first.map (Value.int .i64)):=hc.row 1 (by omega) (by omega)
 obtain ⟨ao,cap,e1⟩:=aJ hr
 have c1:=hc.cell 1 (u:=c.v 1) rfl
 have HC:Hid (_/\_/\_):=⟨hc,hF,e1⟩
 rw[e1] at c1 hr
 have hl:=hF.few
 have hp:0≤k.net.places/\k.net.places≤1004000:=by have:=hF.len;omega
 obtain ⟨p,hpp⟩:∃p,p=k.net.places:=⟨_,rfl⟩
 have HP:Hid _:=hpp
 rw[<-hpp] at hp
 have hkk:=hc.hk
 rw[<-hpp] at hkk
 rw[<-hpp]
 obtain ⟨n,hn⟩:∃n,n=k.net.first.length:=⟨_,rfl⟩
 have HN:Hid _:=hn
 rw[<-hn] at c1 hr hl
 obtain ⟨hp0,hp1⟩:=hp
 have lkb:=aB hkk
 have HK:Hid (w.heap[kb]?=some (.cells (c.cells p).toArray 168 (0,0))/\∀g,(Value.slice ao n cap).ownBlock=some g->g≠kb):=⟨hkk,fun g hg e=>by
  have h1:=hc.pr 1 g (by omega) (by omega) (by rw[e1,<-hn];exact hg)
  rw[e,hc.p0.2] at h1;exact absurd h1.2 (by omega)⟩
 have hs1:IntKind.i64.wrap (p+1)=p+1:=by rw[IntKind.wrap_i64];omega
 have hs2:IntKind.i64.wrap (p+1-1)=p:=by rw[IntKind.wrap_i64];omega
 clear hc hF e1 hpp hn hkk
 go_enter Tryz.func145,Tryz.ntmps145
 go_wp2_with (at_builtin;refine wpList_append_own_at _ rfl (.tmp 10) (.tmp 12) 22 rfl 0 2 i0 _ 1 8 Tryz.underlying22 hi hz0 hz1 hz2 rfl (by decide) _ _ _ rfl (hr.alloc _) ⟨w.heap.size,0,none⟩ 1 1 [.int .i64 x] rfl rfl (dX _ _ _) (by intro u hu;simp at hu;subst hu;rfl) (by unfold maxLen;omega) (by omega) (by simp) ?_;intro v5 w5 hown5 hgrow _ hat;obtain ⟨a5,m5,e5⟩:=aJ hown5;subst e5;have hk5:w5.heap[kb]?=some (.cells (c.cells p).toArray 168 (0,0)):=by { rw[hgrow.block kb (by simp;omega) (fun e=>(HK.out.2 kb e.symm) rfl),dW HK.out.1] };have d0:=aA hk5 0 (u:=.int .i64 p) rfl;have d1:=aA hk5 1 (u:=c.v 1) rfl;have f0:=aE hk5 0;have f1:=aE hk5 1)
 go_ret
 refine ⟨rfl,?_⟩
 obtain ⟨hC,hF,e1⟩:=HC.out
 rw[<-HN.out] at e1
 obtain ⟨g1,g2⟩:=hC.grow (i:=1) (by omega) (by omega) (w0:=w.alloc (.cells #[.int .i64 x] 2)) (n5:={ k.net with first:=k.net.first++[x] }) (aC _ _) (new:=[.int .i64 x]) (by show World.ownsRow _ _ _ _ _ (k.net.first.length+1) _;rw[<-HN.out];exact hown5) (by rw[e1];exact hgrow) (by rw[e1];exact hat) rfl (fun j hj=>by unfold qH oV;split<;>first|exact absurd rfl hj|exact ⟨rfl,rfl⟩) ⟨by simp[qH],by simp[oV]⟩
 obtain ⟨g3,g4⟩:=g1.setP (p+1)
 have e:aQ k x={ ({ k with net:={ k.net with first:=k.net.first++[x] } }:Kd) with net:={ ({ k with net:={ k.net with first:=k.net.first++[x] } }:Kd).net with places:=p+1 } }:=by rw[HP.out];rfl
 rw[<-e] at g3
 exact ⟨⟨_,g3.mono (Up.size g4.size),Nat.succ_le_succ hC.nv⟩,hF.place hE hx,fL hlt (g2.trans g4 fun b hb hq=>hq.elim id fun h=>absurd h.1 (by omega)).size,g2.trans g4 fun b hb hq=>hq.elim id fun h=>absurd h.1 (by omega)⟩
theorem Jl {x:Int}(h:eG E ns P w kb k) (hE:E<1000000) (hx:eF x) :
    Calls Tryz.prog 146 #[.pointer (some ⟨kb,0,none⟩),.int .i64 x] w fun e w'=>e=.returned (.int .i64 k.net.places)/\Hid ((∃c,CM (Up P w w') w' kb (bD (aQ k x) k.net.places) c/\c.nv+1≤k.net.first.length+1)/\qY (E+1) ns (bD (aQ k x) k.net.places)/\(∀b,Up P w w' b->b<w'.heap.size)/\bH P w w'):=by
 have hcall:=xB h hE hx
 have HH:Hid (qY E ns k/\∀b,P b->b<w.heap.size):=h.2
 obtain ⟨i0,hi,hz0,hz1,hz2⟩:=info_parts Pi
 obtain ⟨p,hp⟩:∃p,p=k.net.places:=⟨_,rfl⟩
 rw[<-hp] at hcall ⊢
 clear h hp
 go_enter Tryz.func146,Tryz.ntmps146
 go_upto_region 2 with (go_at_call 145;refine hcall.mono ?_;rintro e w1 ⟨rfl,h1⟩)
 obtain ⟨⟨c,hc,hnv⟩,hF,hlt,hfr⟩:=h1.out
 have hr:w1.ownsRow 0 3 1 (c.v 4) (aQ k x).net.keeps.length ((aQ k x).net.keeps.map (Value.int .i64)):=hc.row 4 (by omega) (by omega)
 obtain ⟨ao,cap,e1⟩:=aJ hr
 have c1:=hc.cell 4 (u:=c.v 4) rfl
 have HC:Hid (_/\_/\_/\_):=⟨hc,e1,hfr,hnv⟩
 rw[e1] at c1 hr
 have hl:=hF.few
 have hl2:=hF.keeps
 obtain ⟨n,hn⟩:∃n,n=(aQ k x).net.keeps.length:=⟨_,rfl⟩
 have HN:Hid _:=hn
 rw[<-hn] at c1 hr hl2
 have hkk:=hc.hk
 have lkb:=aB hkk
 have HK:Hid (w1.heap[kb]?=some (.cells (c.cells (aQ k x).net.places).toArray 168 (0,0))/\∀g,(Value.slice ao n cap).ownBlock=some g->g≠kb):=⟨hkk,fun g hg e=>by
  have h1:=hc.pr 4 g (by omega) (by omega) (by rw[e1,<-hn];exact hg)
  rw[e,hc.p0.2] at h1;exact absurd h1.2 (by omega)⟩
 have hn6:n≤1004000:=by omega
 clear hc hF e1 hn hkk hl hl2 hfr h1 hcall hnv
 go_wp2_with (at_builtin;refine wpList_append_own_at _ rfl (.tmp 14) (.tmp 16) 23 rfl 0 3 i0 _ 1 8 Tryz.underlying23 hi hz0 hz1 hz2 rfl (by decide) _ _ _ rfl (hr.alloc _) ⟨w1.heap.size,0,none⟩ 1 1 [.int .i64 p] rfl rfl (dX _ _ _) (by intro u hu;simp at hu;subst hu;rfl) (by unfold maxLen;omega) (by omega) (by simp) ?_;intro v5 w5 hown5 hgrow _ hat;obtain ⟨a5,m5,e5⟩:=aJ hown5;subst e5;have hk5:w5.heap[kb]?=some (.cells (c.cells (aQ k x).net.places).toArray 168 (0,0)):=by { rw[hgrow.block kb (by simp;omega) (fun e=>(HK.out.2 kb e.symm) rfl),dW HK.out.1] };have d1:=aA hk5 4 (u:=c.v 4) rfl;have f1:=aE hk5 4)
 go_ret
 refine ⟨rfl,?_⟩
 obtain ⟨hC,e1,hfr,hnv⟩:=HC.out
 rw[<-HN.out] at e1
 obtain ⟨g1,g2⟩:=hC.grow (i:=4) (by omega) (by omega) (w0:=w1.alloc (.cells #[.int .i64 p] 3)) (n5:=(bD (aQ k x) p).net) (aC _ _) (new:=[.int .i64 p]) (by show World.ownsRow _ _ _ _ _ ((aQ k x).net.keeps.length+1) _;rw[<-HN.out];exact hown5) (by rw[e1];exact hgrow) (by rw[e1];exact hat) rfl (fun j hj=>by unfold qH oV;split<;>first|exact absurd rfl hj|exact ⟨rfl,rfl⟩) ⟨by simp[qH,bD],by simp[oV,bD]⟩
 exact ⟨⟨_,g1.mono (Up.up hfr.size g2.size),hnv⟩,HH.out.1.kept hE hx,fL HH.out.2 (hfr.up g2).size,hfr.up g2⟩
theorem Xe {l:List bJ}{v:Value}(h:lY A w l v) :
    ∃ad g cap,v=.slice ad l.length cap/\l.length≤maxLen/\(0<l.length->ad=some ⟨g,0,none⟩/\A g)/\∀(i:Nat) (a:bJ),l[i]?=some a->w.cell? ⟨g,i*3,none⟩=some (.int .i64 (a.kind:Int))/\w.cell? ⟨g,i*3+1,none⟩=some (sv a.name)/\w.cell? ⟨g,i*3+2,none⟩=some (.int .i64 a.first):=by
 obtain ⟨xs,hr,hs⟩:=h
 obtain ⟨ad,g,cap,h1,h2,h3,h4⟩:=uX.open (k:=3) (fun a c hc=>by rw[show c=_ from hc];rfl) hr hs
 refine ⟨ad,g,cap,h1,h2,fun hp=>⟨(h3 hp).1,(h3 hp).2.1⟩,fun i a hi=>?_⟩
 obtain ⟨c,hc,hx⟩:=h4 i a hi
 obtain rfl:c=_:=hc
 exact ⟨hx 0 _ rfl,hx 1 _ rfl,hx 2 _ rfl⟩
def CM1 (E:Nat) (ns:List bB) (P:Nat->Prop) (w:World) (kb:Nat) (k:Kd):Prop:=(∃c,CM P w kb k c/\c.nv+1≤k.net.first.length)/\qY E ns k/\(∀b,P b->b<w.heap.size)/\k.net.first.length+ns.length≤k.net.code.length+E
def mW (k:Kd) (p:Int):Kd:={ k with net:={ k.net with ins:=k.net.ins++[p] } }
def lI (k:Kd) (p:Int):Kd:={ k with net:={ k.net with outs:=k.net.outs++[p] } }
def jL (k:Kd) (s:bB) (v:Vr):Kd:={ k with vars:=fun t=>if t=s then v else k.vars t }
theorem X1:xG ns k≤ns.length:=List.length_filter_le _ _
theorem qY.ofPot {k':Kd}(h:qY E ns k) (hp:k.net.first.length+ns.length≤k.net.code.length+E) (e1:k'.net.first=k.net.first) (e2:k'.net.places=k.net.places) (e3:k'.net.code=k.net.code) (e4:k'.net.keeps=k.net.keeps) (e5:k'.net.nums=k.net.nums) (hi:k'.net.ins.length≤k.net.first.length) (ho:k'.net.outs.length≤k.net.first.length) (hv:∀s,eF (k'.vars s).first) (hn:∀s,s∉ns->(k'.vars s).was≠-1):qY E ns k':=by
 have:=X1 (ns:=ns) (k:=k')
 refine ⟨by rw[e1,e2];exact h.len,by rw[e1,e3];omega,by rw[e3];exact h.code,by rw[e1,e4];exact h.keeps,by rw[e1];exact hi,by rw[e1];exact ho,by rw[e3,e5];exact h.nums,h.e,by rw[e1];exact h.nf,by rw[e5];exact h.nn,hv,hn⟩
theorem CM1.put (h:CM1 E ns P w kb k) {s:bB}{v:Vr}(hs:s.length≤maxLen) (hsn:s∈ns) (hv:eF v.first) (S:Value) (hS:S=sv s):∃mv w6,w.cell? ⟨kb,7,none⟩=some (.map (some mv))/\(Instr.mapUpdate 166 (.map (some mv)) S (.agg #[.int .i64 v.now,.int .i64 v.was,.int .i64 v.first])).run Tryz.prog w.drew=.ok () w6/\eG E ns P w6 kb (jL k s v)/\bH P w w6:=by
 obtain ⟨⟨c,hc,hnv⟩,hF,hlt,hpot⟩:=h
 obtain ⟨f,hm,hf⟩:=hc.hv
 have hmD:Gm.Mp Tryz.prog 9 w.drew c.mv c.nv f:=hm.keep rfl
 obtain ⟨w6,hrun,hm6,hg6⟩:=hmD.put rV Tryz.underlying166 (by have:=hF.few;unfold maxLen;omega) (Mw hs) (He v)
 have hcD:CM P w.drew kb k c:=hc.carry fun b hb _=>⟨hb,rfl⟩
 obtain ⟨g3,g4⟩:=hcD.setV (vars':=(jL k s v).vars) hm6 (fun t=>by
  show ((Gm.put f _ _) _).getD _=He (if t=s then v else k.vars t)
  by_cases hts:t=s
  ·rw[hts,Gm.lQ _ (by trivial),if_pos rfl];rfl
  ·rw[Gm.kB _ _ (by intro e;injection e with e;exact hts e),if_neg hts];exact hf t) hg6 (by split<;>omega)
 refine ⟨c.mv,w6,hc.cell 7 rfl,by rw[hS];exact hrun,⟨⟨_,g3⟩,hF.ofPot hpot rfl rfl rfl rfl rfl hF.ins hF.outs (fun t=>?_) (fun t ht=>?_),fun b hb=>Nat.lt_of_lt_of_le (hlt b hb) g4.size⟩,(bH.refl P w).drew.trans g4 fun _ _ h=>h⟩
 ·show eF (if t=s then v else k.vars t).first
  split
  ·exact hv
  ·exact hF.vf t
 ·show (if t=s then v else k.vars t).was≠-1
  rw[if_neg (fun e:t=s=>ht (e▸hsn))];exact hF.out t ht
end
end Ew
end
section
open Go.RowKit Px
namespace Ew
open Px.Em (Kd Vr)
open Nx (Nt Sp)
def Ro (A P:Nat->Prop) (w:World):Prop:=∀b,A b->b<w.heap.size/\¬P b
section
variable {P A:Nat->Prop}{w w':World}{kb E:Nat}{ns:List bB}{k:Kd}
theorem Ro.up (h:Ro A P w) (hs:w.heap.size≤w'.heap.size):Ro A (Up P w w') w':=fun b hb=>⟨Nat.lt_of_lt_of_le (h b hb).1 hs,fun hu=>hu.elim (h b hb).2 fun hn=>absurd hn.1 (by have:=(h b hb).1;omega)⟩
theorem Ro.size (h:Ro A P w) (hs:w.heap.size≤w'.heap.size):Ro A P w':=fun b hb=>⟨Nat.lt_of_lt_of_le (h b hb).1 hs,(h b hb).2⟩
theorem Ro.keep (h:Ro A P w) (hf:bH P w w'):aX A A w w':=hf.keep fun b hb=>(h b hb).2
def Lm (A:Nat->Prop) (kb E:Nat) (ns:List bB) (e:Px.E):Prop:=∀{P:Nat->Prop}{w:World}{k:Kd}{v:Value},jI A w e v->eG E ns P w kb k->Ro A P w->
 Calls Tryz.prog 234 #[.pointer (some ⟨kb,0,none⟩),v] w (eY E ns P kb w k (Em.eK e k) (Value.int .i64))
theorem Z4 (x y z:Int) (w:World):(Instr.field 218 (.agg #[.int .i64 x,.int .i64 y,.int .i64 z]) 0).run Tryz.prog w=.ok (.int .i64 x) w:=by kernel_rfl
theorem Zq (hE:E<1000000):Lm A kb E ns .nil:=by
 intro P w k v hv h _
 obtain rfl:v=.pointer none:=hv
 have hnum:=dB (n:=0) h hE eF.zero
 clear h
 show Calls _ _ _ _ (eY E ns P kb w k (Em.bM 0 k) (Value.int .i64))
 go_enter Tryz.func234,Tryz.ntmps234
 go_wp2_with (go_at_call 235;refine hnum.mono ?_;rintro e w1 (⟨rfl,h0,h1⟩|⟨p,k1,rfl,h0,h1⟩);(· exact ⟨rfl,.inl ⟨rfl,h0,h1⟩⟩))
 go_ret
 exact .inr ⟨p,k1,rfl,h0,h1⟩
section
variable {b o:Nat}{a:Nd}{l r:Px.E}
theorem m9 (h:a.code=1):Em.eK (.node b o a l r) k=Em.bM a.num k:=by rw[Em.eK,if_pos h]
theorem Z7 (h:a.code=2):Em.eK (.node b o a l r) k=some ((k.vars a.name).now,k):=by rw[Em.eK,if_neg (by omega),if_pos h];rfl
theorem Z9 (h:a.code=3):Em.eK (.node b o a l r) k=Em.rO a.name k:=by rw[Em.eK,if_neg (by omega),if_neg (by omega),if_pos h]
theorem j9 (h:a.code=4\/a.code=5):Em.eK (.node b o a l r) k=(Em.eK l >>= fun x=>Em.made a.code x 0 0) k:=by rw[Em.eK,if_neg (by omega),if_neg (by omega),if_neg (by omega),if_pos h]
theorem Gg (h1:a.code=0\/16<a.code):Em.eK (.node b o a l r) k=Em.bM 0 k:=by rw[Em.eK,if_neg (by omega),if_neg (by omega),if_neg (by omega),if_neg (by omega),if_pos (by omega)]
theorem Z8 (h1:6≤a.code) (h2:a.code≤16):Em.eK (.node b o a l r) k=(Em.eK l >>= fun x=>Em.eK r >>= fun y=>Em.made a.code x y 0) k:=by rw[Em.eK,if_neg (by omega),if_neg (by omega),if_neg (by omega),if_neg (by omega),if_neg (by omega)]
end
theorem Wb (hE:E<1000000) {b o:Nat}{a:Nd}{l r:Px.E}(hn:a.name.length≤maxLen) (hx:eF a.num) (ihl:Lm A kb E ns l) (ihr:Lm A kb E ns r):Lm A kb E ns (.node b o a l r):=by
 intro P w k v hv h hR
 obtain ⟨g,lv,rv,rfl,hAg,hg,hl,hr⟩:=hv
 obtain ⟨pl,rfl⟩:=hl.pt'
 obtain ⟨pr,rfl⟩:=hr.pt'
 obtain ⟨cd,hcd⟩:∃cd:Int,cd=(a.code:Int):=⟨_,rfl⟩
 obtain ⟨S,hS⟩:∃S,Value.string S=sv a.name:=⟨_,rfl⟩
 rw[<-hcd,<-hS] at hg
 have HG:Hid (w.heap[g]?=some (.cells #[.int .i64 cd,.int .i64 a.num,.string S,.pointer pl,.pointer pr] 335 (0,0))/\A g):=⟨hg,hAg⟩
 have g0:=aA hg 0 (u:=.int .i64 cd) rfl
 have HP:Hid (∀b,P b->b<w.heap.size):=h.2.2
 by_cases h1:a.code=1
 ·rw[m9 h1]
  have g1:=aA hg 1 (u:=.int .i64 a.num) rfl
  have hnum:=dB h hE hx
  have t1:(cd==1)=true:=by rw[hcd,h1];rfl
  clear h hR hg hl hr hcd hS ihl ihr h1 hAg
  go_enter Tryz.func234,Tryz.ntmps234
  go_wp2_with (go_at_call 235;refine hnum.mono ?_;rintro e w1 (⟨rfl,h0,h1⟩|⟨p,k1,rfl,h0,h1⟩);(· exact ⟨rfl,.inl ⟨rfl,h0,h1⟩⟩))
  go_ret
  exact .inr ⟨p,k1,rfl,h0,h1⟩
 have t1:(cd==1)=false:=by rw[beq_eq_false_iff_ne];omega
 by_cases h2:a.code=2
 ·rw[Z7 h2]
  have t2:(cd==2)=true:=by rw[beq_iff_eq];omega
  have g2:=aA hg 2 (u:=.string S) rfl
  obtain ⟨⟨c,hc⟩,hF,hlt⟩:=h
  have c7:=hc.cell 7 (u:=.map (some c.mv)) rfl
  have hlk:∀m,(Instr.lookup 166 (.map (some c.mv)) (.string S) false).run Tryz.prog (w.drewN m)=.ok (.agg #[.int .i64 (k.vars a.name).now,.int .i64 (k.vars a.name).was,.int .i64 (k.vars a.name).first]) (w.drewN m):=fun m=>by
   rw[hS]
   exact (CM.lookV (P:=P) (kb:=kb) (hc.carry (w':=w.drewN m) fun b hb _=>⟨hb,rfl⟩) hn)
  have HF:Hid (∀m,eY E ns P kb w k (some ((k.vars a.name).now,k)) (Value.int .i64) (.returned (.int .i64 (k.vars a.name).now)) (w.drewN m)):=fun m=>eY.below (w1:=w.drewN m) hlt ⟨rfl,rfl,rfl,Nat.le_refl _,fun _ _=>rfl⟩ (eY.pure ⟨⟨c,hc.carry (w':=w.drewN m) fun b hb _=>⟨hb,rfl⟩⟩,hF,hlt⟩ rfl)
  clear hR hg hl hr hcd hS ihl ihr h1 h2 hAg hc hF hlt
  go_enter Tryz.func234,Tryz.ntmps234
  go_wp2_with fail
  have hlk1:(Instr.lookup 166 (.map (some c.mv)) (.string S) false).run Tryz.prog w.drew=.ok (.agg #[.int .i64 (k.vars a.name).now,.int .i64 (k.vars a.name).was,.int .i64 (k.vars a.name).first]) w.drew:=hlk 1
  clear hlk
  have hfd:=Z4
  go_region
  all_goals
   go_wp2_with fail
   go_ret
   exact HF.out 1
 have t2:(cd==2)=false:=by rw[beq_eq_false_iff_ne];omega
 by_cases h3:a.code=3
 ·rw[Z9 h3]
  have t3:(cd==3)=true:=by rw[beq_iff_eq];omega
  have g2:=aA hg 2 (u:=.string S) rfl
  have hwas:=Te hn h hE
  rw[<-hS] at hwas
  clear h hR hg hl hr hcd hS ihl ihr h1 h2 h3 hAg
  go_enter Tryz.func234,Tryz.ntmps234
  go_wp2_with (go_at_call 258;refine hwas.mono ?_;rintro e w1 (⟨rfl,h0,h1⟩|⟨p,k1,rfl,h0,h1⟩);(· exact ⟨rfl,.inl ⟨rfl,h0,h1⟩⟩))
  go_ret
  exact .inr ⟨p,k1,rfl,h0,h1⟩
 have t3:(cd==3)=false:=by rw[beq_eq_false_iff_ne];omega
 by_cases h4:a.code=4\/a.code=5
 ·rw[j9 h4]
  have HR:Hid (Ro A P w/\(a.code:Int)=cd):=⟨hR,hcd.symm⟩
  have hdr:Below w.heap.size w w.drew:=⟨rfl,rfl,rfl,Nat.le_refl _,fun _ _=>rfl⟩
  have hl':jI A w.drew l (.pointer pl):=jI.carry (w:=w) (w':=w.drew) (A':=A) (fun b hb _=>⟨hb,rfl⟩) hl
  have hcl:=ihl hl' (h.below hdr) (hR.size (Nat.le_refl _))
  have HDR:Hid (Below w.heap.size w w.drew):=hdr
  have g3:=aA hg 3 (u:=.pointer pl) rfl
  have t45:((cd==4)=true)\/((cd==4)=false/\(cd==5)=true):=by
   rcases h4 with h4|h4
   ·left;rw[beq_iff_eq];omega
   ·right;exact ⟨by rw[beq_eq_false_iff_ne];omega,by rw[beq_iff_eq];omega⟩
  clear h hR hg hl hl' hr hcd hS ihl ihr h1 h2 h3 h4 hAg hdr
  rcases t45 with t4|⟨t4,t5⟩
  all_goals
   go_enter Tryz.func234,Tryz.ntmps234
   go_wp2_with fail
   go_region_law (first
    | (go_simp;go_at_call 234;refine hcl.mono ?_;rintro e w1 (⟨rfl,h0,h1⟩|⟨x,k1,rfl,h0,h1⟩);(· exact ⟨rfl,.inl ⟨rfl,aF h0.out,(bH.of_below HDR.out).trans h1.out fun _ _ h=>h⟩⟩);have hg1:=h1.out.2.1.heap (show w.drew.heap[g]?=_ from HG.out.1) (HR.out.1 g HG.out.2).2;have k0:=aA hg1 0 (u:=.int .i64 cd) rfl;have hmade:=gP cd x 0 0 h1.out.1 hE;clear hg1)
    | (go_simp;go_at_call 233;refine hmade.mono ?_;rintro e w2 (⟨rfl,h2,h3⟩|⟨p,k2,rfl,h2,h3⟩);(· exact ⟨rfl,eY.below HP.out HDR.out (eY.up (w:=w.drew) HP.out h1.out.2.1 h1.out.2.2 (by rw[bind_some h0.out,HR.out.2]) (.inl ⟨rfl,h2,h3⟩))⟩)))
   all_goals
    go_wp2_with fail
    go_ret
    exact eY.below HP.out HDR.out (eY.up (w:=w.drew) HP.out h1.out.2.1 h1.out.2.2 (by rw[bind_some h0.out,HR.out.2]) (.inr ⟨p,k2,rfl,h2,h3⟩))
 have t4:(cd==4)=false:=by rw[beq_eq_false_iff_ne];omega
 have t5:(cd==5)=false:=by rw[beq_eq_false_iff_ne];omega
 by_cases h5:a.code=0\/16<a.code
 ·rw[Gg h5]
  have hnum:=dB (n:=0) h hE eF.zero
  have hq:cd<6\/(¬cd<6/\16<cd):=by omega
  clear h hR hg hl hr hcd hS ihl ihr h1 h2 h3 h4 h5 hAg
  rcases hq with hq|⟨hq,hq2⟩
  all_goals
   go_enter Tryz.func234,Tryz.ntmps234
   go_wp2_with (go_at_call 235;refine hnum.mono ?_;rintro e w1 (⟨rfl,h0,h1⟩|⟨p,k1,rfl,h0,h1⟩);(· exact ⟨rfl,.inl ⟨rfl,h0,h1⟩⟩))
   go_ret
   exact .inr ⟨p,k1,rfl,h0,h1⟩
 ·rw[Z8 (by omega) (by omega)]
  have hq:¬cd<6:=by omega
  have hq2:¬16<cd:=by omega
  have g3:=aA hg 3 (u:=.pointer pl) rfl
  have hcl:=ihl hl h hR
  have HR:Hid (Ro A P w/\(a.code:Int)=cd/\jI A w r (.pointer pr)/\Lm A kb E ns r):=⟨hR,hcd.symm,hr,ihr⟩
  clear h hR hg hl hr hcd hS ihl ihr h1 h2 h3 h4 h5 hAg
  go_enter Tryz.func234,Tryz.ntmps234
  go_upto_region 16 with (go_at_call 234;refine hcl.mono ?_;rintro e w1 (⟨rfl,h0,h1⟩|⟨x,k1,rfl,h0,h1⟩);(· exact ⟨rfl,.inl ⟨rfl,aF h0.out,h1⟩⟩))
  have hg1:=h1.out.2.1.heap HG.out.1 (HR.out.1 g HG.out.2).2
  have hR1:=HR.out.1.up h1.out.2.1.size
  have k4:=aA hg1 4 (u:=.pointer pr) rfl
  have hcr:=HR.out.2.2.2 (HR.out.2.2.1.carry (HR.out.1.keep h1.out.2.1)) h1.out.1 hR1
  have HG1:Hid (w1.heap[g]?=some (.cells #[.int .i64 cd,.int .i64 a.num,.string S,.pointer pl,.pointer pr] 335 (0,0))/\¬Up P w w1 g):=⟨hg1,(hR1 g HG.out.2).2⟩
  clear hg1 hR1 hcl g0 g3
  go_upto_region 17 with (go_at_call 234;refine hcr.mono ?_;rintro e w2 (⟨rfl,h2,h3⟩|⟨y,k2,rfl,h2,h3⟩);(· exact ⟨rfl,eY.up HP.out h1.out.2.1 h1.out.2.2 (bind_some h0.out) (.inl ⟨rfl,aF h2.out,h3⟩)⟩))
  have hg2:=h3.out.2.1.heap HG1.out.1 HG1.out.2
  have k0:=aA hg2 0 (u:=.int .i64 cd) rfl
  have hmade:=gP cd x y 0 h3.out.1 hE
  clear hg2 hcr k4
  have e1:Hid ((Em.eK l >>= fun x=>Em.eK r >>= fun y=>Em.made a.code x y 0) k=(Em.eK r >>= fun y=>Em.made a.code x y 0) k1):=bind_some h0.out
  have e2:Hid ((Em.eK r >>= fun y=>Em.made a.code x y 0) k1=Em.made cd x y 0 k2):=by rw[Hid,bind_some h2.out,HR.out.2.1]
  go_wp2_with (go_at_call 233;refine hmade.mono ?_;rintro e w3 (⟨rfl,h4,h5⟩|⟨p,k3,rfl,h4,h5⟩);(· exact ⟨rfl,eY.up HP.out h1.out.2.1 h1.out.2.2 e1.out (eY.up h1.out.1.2.2 h3.out.2.1 h3.out.2.2 e2.out (.inl ⟨rfl,h4,h5⟩))⟩))
  go_ret
  exact eY.up HP.out h1.out.2.1 h1.out.2.2 e1.out (eY.up h1.out.1.2.2 h3.out.2.1 h3.out.2.2 e2.out (.inr ⟨p,k3,rfl,h4,h5⟩))
theorem kS (hE:E<1000000):∀e:Px.E,rL e->Lm A kb E ns e:=by
 intro e
 induction e with
 | nil=>intro _;exact Zq hE
 | node b o a l r ihl ihr=>intro h;exact Wb hE h.1 h.2.1 (ihl h.2.2.1) (ihr h.2.2.2)
end
end Ew
end
end Go.Proofs.YtcdbhoknhnimcaaGreatDoor
