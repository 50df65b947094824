import Derived.Test.YtcdbhoknhnimcaaGreatDoorTCo2
import Derived.BigQuiet
set_option maxRecDepth 100000
set_option maxHeartbeats 8000000
namespace Go.Proofs.YtcdbhoknhnimcaaGreatDoor
section
open Go.RowKit Px
theorem Hd {ρ:Type}(l:List (cC ρ)) (T:List Bool) (hl:l.length≤1000000) (hw:∀s∈l,s.ways.length≤1000000) (j:Nat):-1≤(As (cL l) T).getD j 0/\(As (cL l) T).getD j 0≤1000000000000:=by
 by_cases hj:j<(cL l).length
 ·rw[vY _ _ _ hj]
  have:=A0 l T j (cL l).length (by rw[fF];exact Nat.le_refl _) hl hw
  unfold Wh
  split<;>omega
 ·rw[List.getD_eq_getElem?_getD,List.getElem?_eq_none (by rw[jM];omega)]
  simp
theorem C0 {ρ:Type}(l:List (cC ρ)) (k:Nat) (hk:k≤l.length) (hl:l.length≤1000000) (hw:∀s∈l,s.ways.length≤1000000) (j:Nat):-1≤(jN (cL l) k).getD j 0/\(jN (cL l) k).getD j 0≤1000000000000:=by
 by_cases hj:j<(cL l).length
 ·rw[zD _ _ _ hj]
  have:=A0 l (List.replicate (cL l).length false) j k hk hl hw
  omega
 ·rw[List.getD_eq_getElem?_getD,List.getElem?_eq_none (by rw[lO];omega)]
  simp
theorem Ie {V:List Int}(h:∀j,-1≤V.getD j 0/\V.getD j 0≤1000000000000) (i:Nat) (j:Nat):-1≤(V.set i (-1)).getD j 0/\(V.set i (-1)).getD j 0≤1000000000000:=by
 rw[List.getD_eq_getElem?_getD,List.getElem?_set]
 by_cases e:i=j
 ·subst e
  by_cases hl:i<V.length
  ·simp[hl]
  ·simp[hl]
 ·rw[if_neg e,<-List.getD_eq_getElem?_getD];exact h j
theorem Dk {w:World}{g n cap j:Nat}{G:List (List (Option Nat))}{T:List Bool}(hn:n=G.length) (hm:n≤1000000) (hW:dD w g (As G T)) (hj:uT G T=some j) :
    Calls Tryz.prog 110 #[.slice (some ⟨g,0,none⟩) n cap,.int .i64 0] w fun e w'=>e=.returned (.int .i64 (j:Int))/\w'=w:=by
 refine (pY (by rw[Hid,jM];exact hn) hm hW).mono fun e w' ⟨hw,ho⟩=>⟨?_,hw⟩
 obtain ⟨j1,j2,j3⟩:=nI hj
 rcases ho with ⟨k,rfl,hk,hz,hno⟩|⟨rfl,hno⟩
 ·have hf:=(rP G T k (by omega)).1 hz
  have:k=j:=by
   by_cases h1:k<j
   ·rw[j3 k h1] at hf;simp at hf
   ·by_cases h2:j<k
    ·exact absurd ((rP G T j j1).2 j2) (hno j h2)
    ·omega
  rw[this]
 ·exact absurd ((rP G T j j1).2 j2) (hno j (by omega))
theorem Dl {w:World}{g n cap:Nat}{G:List (List (Option Nat))}{T:List Bool}(hn:n=G.length) (hm:n≤1000000) (hW:dD w g (As G T)) (hj:uT G T=none) :
    Calls Tryz.prog 110 #[.slice (some ⟨g,0,none⟩) n cap,.int .i64 0] w fun e w'=>e=.returned (.int .i64 (-1))/\w'=w:=by
 refine (pY (by rw[Hid,jM];exact hn) hm hW).mono fun e w' ⟨hw,ho⟩=>⟨?_,hw⟩
 rcases ho with ⟨k,rfl,hk,hz,hno⟩|⟨rfl,hno⟩
 ·have hf:=(rP G T k (by omega)).1 hz
  rw[Cl hj k (by omega)] at hf;simp at hf
 ·rfl
theorem Xl {W wr w':World}{gw:Nat}(h:Fr W.heap.size [gw] W wr) (k:Fr wr.heap.size [gw] wr w'):Fr W.heap.size [gw] W w':=h.trans (k.mono h.size (fun _ hx _=>hx))
theorem qP {w:World}{a:Addr}{v:Value}{b:Nat}(h:b≠a.block):(w.setCell a v).heap[b]?=w.heap[b]?:=Below.heap_setCell _ _ _ _ h
def aH4 {ρ:Type}(W wr:World) (gw go n r:Nat) (l:List (cC ρ)):Prop:=
 ∃(os:List Nat) (T:List Bool) (X:List Int),oY (cL l) r=some (os,T)/\dD wr gw (As (cL l) T)/\Fr W.heap.size [gw] W wr/\dD wr go X/\X.length=n/\(∀k,k<r->X.getD k 0=((os.getD k 0:Nat):Int))/\W.heap.size≤go
def Er (w:World) (oo:Option (List Nat)) (e:Ending) (w':World):Prop:=Below w.heap.size w w'/\((oo=none/\e=.returned (.tuple #[.slice none 0 0,.bool false]))\/∃o v,oo=some o/\e=.returned (.tuple #[v,.bool true])/\Xq (fun b=>w.heap.size≤b) w' v o)
theorem V6 {ρ:Type}{w:World}{ad:Option Addr}{g n cap:Nat}{l:List (cC ρ)}{oo:Option (List Nat)}(hoo:Hid (eJ (cL l)=oo)) (hn:Hid (n=l.length)) (hm:n≤1000000) (ha:0<n->ad=some ⟨g,0,none⟩) (hS:lV w g l) :
    Calls Tryz.prog 196 #[.slice ad n cap] w fun e w'=>Er w oo e w':=by
 have hmf:∀(fn:Fn) (first cap:Array Value) (w:World),(Instr.makeFunc fn first cap).run Tryz.prog w=.ok (.func fn first cap) w:=fun _ _ _ _=>rfl
 have HS:Hid (lV w g l):=hS
 have HA:Hid (0<n->ad=some ⟨g,0,none⟩):=ha
 have HWL:Hid (∀s∈l,s.ways.length≤1000000):=fun s hs=>by
  obtain ⟨i,hi⟩:=List.getElem?_of_mem hs
  exact (hS i s hi).2.2.2.2.1
 have hN:=hS.names
 rw[<-hn.out] at hN
 have hcall:=nX (cap:=cap) ha hm (w:=w.alloc (.cells #[.slice ad n cap] 210)) (ns:=bA l) ⟨hN.1,fun i hi=>⟨aM (aC w _) (hN.2 i hi).1,(hN.2 i hi).2⟩⟩
 have hmk:=fun X=>Gl X n n (Nat.le_refl _) hm
 have hmk0:∀X,_:=fun X=>Gl X 0 n (Nat.zero_le _) hm
 rw[show ((0:Nat):Int)=0 from rfl] at hmk0
 obtain ⟨ZF,hZF⟩:∃ZF,ZF=Obj.cells ((List.replicate n (0:Int)).map (Value.int .i64)).toArray 3:=⟨_,rfl⟩
 rw[<-hZF] at hmk hmk0
 have HZ:Hid (ZF=Obj.cells ((List.replicate n (0:Int)).map (Value.int .i64)).toArray 3):=hZF
 clear hS hN hZF ha
 go_enter Tryz.func196,Tryz.ntmps196
 go_upto_region 4 with (refine hcall.mono ?_;rintro e w1 ⟨f,rfl,⟨pb,mb,nm,rfl,hpb,hmb⟩,hb⟩;have HF:Hid ((w1.heap[pb]?=some (.cells #[.map (some mb)] 213 (0,0))/\gY w1 mb nm (jK (bA l)))/\Below (w.alloc (.cells #[.slice ad n cap] 210)).heap.size (w.alloc (.cells #[.slice ad n cap] 210)) w1):=⟨⟨hpb,hmb⟩,hb⟩;have cr:=aM hb (aA (bE w (.cells #[.slice ad n cap] 210)) 0 rfl);have cr':=aM (aC w1 (.cells #[.func (.func 143) #[] #[.pointer (some ⟨pb,0,none⟩)]] 157)) cr;clear hpb hmb hb)
 clear hcall cr'
 obtain ⟨W,hW⟩:∃W,W=(((w1.alloc (.cells #[.func (.func 143) #[] #[.pointer (some ⟨pb,0,none⟩)]] 157)).alloc ZF).alloc (.cells #[.slice (some ⟨w1.heap.size+1,0,none⟩) n n] 23)):=⟨_,rfl⟩
 obtain ⟨rb,hrb⟩:∃rb,rb=w.heap.size:=⟨_,rfl⟩
 obtain ⟨fb,hfb⟩:∃fb,fb=w1.heap.size:=⟨_,rfl⟩
 obtain ⟨gw,hgw⟩:∃gw,gw=w1.heap.size+1:=⟨_,rfl⟩
 obtain ⟨wb,hwb⟩:∃wb,wb=w1.heap.size+1+1:=⟨_,rfl⟩
 have O:Hid (Li W ad g n cap rb fb wb gw pb mb nm l/\dD W gw (jN (cL l) 0)/\Below w.heap.size w W/\w.heap.size≤gw/\gw<W.heap.size):=by
  have hb0:Below w.heap.size w w1:=aN (aC w _) HF.out.2
  have hs1:w.heap.size<w1.heap.size:=by have:=HF.out.2.size;simp at this;omega
  have hbW:Below w1.heap.size w1 W:=by rw[hW];exact ((((Below.refl _ _).alloc (Nat.le_refl _) _).alloc (by simp) _).alloc (by simp;omega) _)
  have hsW:W.heap.size=w1.heap.size+1+1+1:=by rw[hW];simp
  have hwW:Below w.heap.size w W:=hb0.trans (hbW.mono (by omega))
  have h1:W.heap[w1.heap.size]?=some (.cells #[.func (.func 143) #[] #[.pointer (some ⟨pb,0,none⟩)]] 157 (0,0)):=by
   rw[hW,Below.heap_alloc _ _ _ (by simp;omega),Below.heap_alloc _ _ _ (by simp)];exact heap_alloc_new _ _
  have h2:W.heap[w1.heap.size+1]?=some ZF:=by
   rw[hW,Below.heap_alloc _ _ _ (by simp)]
   have e:w1.heap.size+1=(w1.alloc (.cells #[.func (.func 143) #[] #[.pointer (some ⟨pb,0,none⟩)]] 157)).heap.size:=by simp
   rw[e];exact heap_alloc_new _ _
  have h3:W.heap[w1.heap.size+1+1]?=some (.cells #[.slice (some ⟨w1.heap.size+1,0,none⟩) n n] 23 (0,0)):=by
   rw[hW]
   have e:w1.heap.size+1+1=((w1.alloc (.cells #[.func (.func 143) #[] #[.pointer (some ⟨pb,0,none⟩)]] 157)).alloc ZF).heap.size:=by simp
   rw[e];exact heap_alloc_new _ _
  have lp:=aB HF.out.1.1
  have lm:=HF.out.1.2.lt
  have hst:=HS.out.below hwW
  refine ⟨⟨?_,?_,?_,?_,?_,hst,?_,?_⟩,?_,hwW,by omega,by omega⟩
  ·rw[hrb];exact aM hbW cr
  ·rw[hfb];exact aA h1 0 rfl
  ·rw[hwb,hgw];exact aA h3 0 rfl
  ·exact aH hbW HF.out.1.1
  ·exact HF.out.1.2.below hbW
  ·intro i s hi
   obtain ⟨q0,q1,q2,q3,q4,ay,gy,capy,q5,q6,q7⟩:=HS.out i s hi
   refine ⟨by omega,fun ay' gy' capy' hc hp he=>?_⟩
   have:=aM hwW q5
   rw[this] at hc
   injection hc with hc
   injection hc with e1 e2 e3
   have:=q6 hp
   rw[e1,he] at this
   have e4:=this.1
   injection e4 with e4
   injection e4 with e4
   omega
  ·omega
  ·rw[hgw,dD,h2,HZ.out,jN,fF,<-hn.out]
 rw[<-hW]
 rw[<-hwb,<-hgw,<-hfb,<-hrb]
 clear hW hrb hfb hgw hwb cr HF HS
 have crW:=O.out.1.hrb
 go_wp2_with fail
 clear crW
 go_loopg [18] n (fun f i wr=>∃k:Nat,f=n-k/\k≤n/\i=.int .i64 (k:Int)/\Hid (dD wr gw (jN (cL l) k)/\Fr W.heap.size [gw] W wr))
 case atStart=>exact ⟨0,by omega,by omega,rfl,O.out.2.1,Fr.refl _ _ _⟩
 case round=>
  obtain ⟨k,rfl,hk,rfl,hr⟩:=hrel
  have OR:=O.out.1.fr hr.out.2
  by_cases hlt:k<n
  ·have hc:=OR.count hn.out HA.out hr.out.1 (by rw[lO,fF];exact hn.out.symm) 1 k hlt (fun m j h=>yC n 1 (.inl rfl) _ (zU l HWL.out k) _ (C0 l k (by have:=hn.out;omega) (by have:=hn.out;omega) HWL.out) m j h)
   clear OR
   go_wp2_with (refine hc.mono ?_;rintro e w' ⟨rfl,hc'⟩)
   go_roundg (n-(k+1))
   case measure=>omega
   case rel=>exact ⟨k+1,rfl,by omega,by go_num,by rw[jN,fF,<-hn.out];exact hc'.out.1,Xl hr.out.2 hc'.out.2⟩
  ·obtain rfl:k=n:=by omega
   obtain ⟨w3,hw3⟩:∃w3,w3=wr:=⟨_,rfl⟩
   have H3:Hid (dD w3 gw (As (cL l) (List.replicate (cL l).length false))/\Fr W.heap.size [gw] W w3):=by
    rw[hw3,<-Be,fF,<-hn.out];exact hr.out
   have c1:=OR.hrb
   rw[<-hw3] at c1 ⊢
   have c2:=aM (aC w3 ZF) c1
   clear hw3 hr OR
   have HC0:Hid (aH4 W (w3.alloc ZF) gw w3.heap.size k 0 l):=by
    refine ⟨[],_,List.replicate k 0,rfl,dW H3.out.1,H3.out.2.alloc H3.out.2.size _,?_,by simp,fun j hj=>absurd hj (by omega),H3.out.2.size⟩
    rw[dD,bE,HZ.out]
   go_wp2_with fail
   clear c1 c2 H3 HZ
   obtain ⟨go,hgo⟩:∃go,go=w3.heap.size:=⟨_,rfl⟩
   rw[<-hgo] at HC0 ⊢
   clear hgo
   go_loopg [8,30] k (fun f o i wr=>∃r:Nat,f=k-r/\r≤k/\o=.slice (some ⟨go,0,none⟩) r k/\i=.int .i64 (r:Int)/\Hid (aH4 W wr gw go k r l))
   case atStart=>exact ⟨0,by omega,by omega,rfl,rfl,HC0.out⟩
   case round=>
    obtain ⟨r,rfl,hrk,rfl,rfl,hr⟩:=hrel
    obtain ⟨os,T,X,hord,hW',hF,hX,hXl,hXk,hgo⟩:=hr.out
    have OR:=O.out.1.fr hF
    by_cases hlt:r<k
    ·have cw:=OR.hwb
     cases hnx:uT (cL l) T with
     | none=>
      have hc:=Dl (cap:=k) (by rw[fF];exact hn.out) hm hW' hnx
      have HN:Hid (eJ (cL l)=none):=by
       have:oY (cL l) (r+1)=none:=by rw[oY,hord];show (match uT (cL l) T with|none=>none|some j=>_)=none;rw[hnx]
       have:=It this (s:=(cL l).length) (by rw[fF,<-hn.out];omega)
       rw[Hid,eJ,this];rfl
      have HB:Hid (Below w.heap.size w wr):=O.out.2.2.1.trans ((hF.mono O.out.2.2.1.size (X':=[]) (fun x hx h=>by have:=O.out.2.2.2.1;simp at hx;omega)).below)
      clear hord hW' hF hX hXl hXk hgo OR hnx hr
      go_wp2_with (refine hc.mono ?_;rintro e w' ⟨rfl,rfl⟩)
      go_ret2
      exact ⟨HB.out,.inl ⟨hoo.out.symm.trans HN.out,rfl⟩⟩
     | some j=>
      obtain ⟨j1,j2,j3⟩:=nI hnx
      obtain ⟨hsh,hol,-⟩:=tM hord
      have hc:=Dk (cap:=k) (by rw[fF];exact hn.out) hm hW' hnx
      have hjk:j<k:=by rw[fF,<-hn.out] at j1;exact j1
      obtain ⟨wa,hwa⟩:∃wa,wa=(wr.alloc (.cells #[.int .i64 (j:Int)] 3)).setCell ⟨go,r,none⟩ (.int .i64 (j:Int)):=⟨_,rfl⟩
      have hap:=Zx (w:=wr.alloc (.cells #[.int .i64 (j:Int)] 3)) (q:=wr.heap.size) (j:Int) (dW hX) hXl hlt (aA (bE wr _) 0 rfl)
      rw[<-hwa] at hap
      have lgo:=aB hX
      have lgw:=aB hW'
      have hgg:gw≠go:=by have:=O.out.2.2.2.2;omega
      have hFa:Fr W.heap.size [gw] W wa:=by rw[hwa];exact (hF.alloc hF.size _).setCell (.inl hgo) _
      have hWa:dD wa gw (As (cL l) T):=by
       refine hW'.keep ?_
       rw[hwa,qP hgg,Below.heap_alloc _ _ _ lgw]
      have hXa:dD wa go (X.set r (j:Int)):=by rw[hwa];exact dD.set (dW hX) r _
      have ORa:=O.out.1.fr hFa
      have cwa:=ORa.hwb
      have cja:=hWa.cell j (by rw[jM];exact j1)
      have cfa:=aE hWa j
      have hix:=ixI (some ⟨gw,0,none⟩) gw k k j hjk (fun _=>rfl)
      have hFb:Fr W.heap.size [gw] W (wa.setCell ⟨gw,j,none⟩ (.int .i64 (-1))):=hFa.setCell (.inr (by simp)) _
      have hWb:dD (wa.setCell ⟨gw,j,none⟩ (.int .i64 (-1))) gw ((As (cL l) T).set j (-1)):=hWa.set j (-1)
      have hXb:dD (wa.setCell ⟨gw,j,none⟩ (.int .i64 (-1))) go (X.set r (j:Int)):=hXa.keep (qP (Ne.symm hgg))
      have hcb:=(O.out.1.fr hFb).count hn.out HA.out hWb (by rw[List.length_set,jM,fF];exact hn.out.symm) (-1) j hjk (fun m i h=>yC k (-1) (.inr rfl) _ (zU l HWL.out j) _ (Ie (Hd l T (by have:=hn.out;omega) HWL.out) j) m i h)
      have hws:=Tf hsh j1 j2
      rw[fF,<-hn.out] at hws
      rw[hws] at hcb
      have HE:Hid (oY (cL l) (r+1)=some (os++[j],T.set j true)/\Fr W.heap.size [gw] W (wa.setCell ⟨gw,j,none⟩ (.int .i64 (-1)))/\dD (wa.setCell ⟨gw,j,none⟩ (.int .i64 (-1))) go (X.set r (j:Int))/\(X.set r (j:Int)).length=k/\(∀i,i<r+1->(X.set r (j:Int)).getD i 0=(((os++[j]).getD i 0:Nat):Int))/\W.heap.size≤go):=by
       refine ⟨?_,hFb,hXb,by rw[List.length_set];exact hXl,fun i hi=>?_,hgo⟩
       ·rw[oY,hord];show (match uT (cL l) T with|none=>none|some j=>some (os++[j],T.set j true))=_;rw[hnx]
       ·rw[List.getD_eq_getElem?_getD,List.getElem?_set]
        by_cases e:r=i
        ·subst e
         rw[if_pos rfl,if_pos (by omega),List.getD_eq_getElem?_getD,List.getElem?_append_right (by omega),hol];simp
        ·rw[if_neg e,<-List.getD_eq_getElem?_getD,hXk i (by omega),List.getD_eq_getElem?_getD,List.getD_eq_getElem?_getD,List.getElem?_append_left (by omega)]
      have hjj:¬(j:Int)<0:=by omega
      clear hord hW' hF hX hXl hXk OR hnx hr hsh hol j1 j2 j3 lgo lgw hFa hWa hXa ORa hFb hWb hXb hws hwa
      go_wp2_with (first
       | (go_at_call 110;refine hc.mono ?_;rintro e w' ⟨rfl,rfl⟩)
       | (go_at_call 229;refine hcb.mono ?_;rintro e w' ⟨rfl,hc'⟩)
       | (at_builtin;refine K9 rfl (.tmp 36) (.tmp 38) _ rfl _ _ _ rfl rfl hap ?_))
      go_roundg (k-(r+1))
      case measure=>omega
      case rel=>
       obtain ⟨e1,e2,e3,e4,e5,e6⟩:=HE.out
       refine ⟨r+1,rfl,by omega,rfl,by go_num,os++[j],T.set j true,X.set r (j:Int),e1,hc'.out.1,Xl e2 hc'.out.2,e3.keep (hc'.out.2.block go (aB e3) (by simpa using Ne.symm hgg)),e4,e5,e6⟩
    ·obtain rfl:r=k:=by omega
     have HO:Hid (eJ (cL l)=some os):=by rw[Hid,eJ,fF,<-hn.out,hord];rfl
     obtain ⟨-,hol,-⟩:=tM hord
     have HB:Hid (Below w.heap.size w wr/\Xq (fun b=>w.heap.size≤b) wr (.slice (some ⟨go,0,none⟩) r r) os):=by
      refine ⟨O.out.2.2.1.trans ((hF.mono O.out.2.2.1.size (X':=[]) (fun x hx h=>by have:=O.out.2.2.2.1;simp at hx;omega)).below),some ⟨go,0,none⟩,go,r,by rw[hol],fun _=>⟨rfl,Nat.le_trans O.out.2.2.1.size hgo,aB hX⟩,fun i hi=>?_⟩
      rw[hX.cell i (by omega),hXk i (by omega)]
     clear hord hW' hF hX hXl hXk hgo OR hr
     go_wp2_with fail
     go_ret2
     exact ⟨HB.out.1,.inr ⟨os,_,hoo.out.symm.trans HO.out,rfl,HB.out.2⟩⟩
end
section
open Go.RowKit Px
def iV (A:Nat->Prop) (w:World) (gy o:Nat) (y:Wy) (p:Option Addr) (q:Value):Prop:=w.cell? ⟨gy,o,none⟩=some (.int .i64 (y.kind:Int))/\w.cell? ⟨gy,o+1,none⟩=some (.bool y.now)/\w.cell? ⟨gy,o+2,none⟩=some (.pointer p)/\w.cell? ⟨gy,o+3,none⟩=some (.int .i64 (y.times:Int))/\w.cell? ⟨gy,o+4,none⟩=some q/\w.cell? ⟨gy,o+5,none⟩=some (sv y.to)/\w.cell? ⟨gy,o+6,none⟩=some (.bool y.back)/\jI A w y.cond (.pointer p)/\cE A w y.sets q
theorem pO.open {A:Nat->Prop}{w:World}{l:List Wy}{v:Value}(h:pO A w l v) :
    ∃ad g cap,v=.slice ad l.length cap/\l.length≤maxLen/\(0<l.length->ad=some ⟨g,0,none⟩/\g<w.heap.size)/\∀(i:Nat) (y:Wy),l[i]?=some y->∃p q,iV A w g (i*7) y p q:=by
 obtain ⟨xs,hr,hs⟩:=h
 obtain ⟨ad,g,cap,h1,h2,h3,h4⟩:=uX.open (k:=7) (fun a c ⟨p,q,hc,_⟩=>by rw[hc];rfl) hr hs
 refine ⟨ad,g,cap,h1,h2,fun hp=>⟨(h3 hp).1,(h3 hp).2.2⟩,fun i a hi=>?_⟩
 obtain ⟨c,⟨p,q,rfl,hp,hq⟩,hx⟩:=h4 i a hi
 obtain ⟨u,rfl⟩:=hp.pt'
 exact ⟨u,q,hx 0 _ rfl,hx 1 _ rfl,hx 2 _ rfl,hx 3 _ rfl,hx 4 _ rfl,hx 5 _ rfl,hx 6 _ rfl,hp,hq⟩
theorem iV.below {A:Nat->Prop}{w w':World}{gy o:Nat}{y:Wy}{p:Option Addr}{q:Value}(h:iV A w gy o y p q) (hb:Below w.heap.size w w'):iV A w' gy o y p q:=by
 obtain ⟨h0,h1,h2,h3,h4,h5,h6,h7,h8⟩:=h
 exact ⟨aM hb h0,aM hb h1,aM hb h2,aM hb h3,aM hb h4,aM hb h5,aM hb h6,h7.carry fun x hx hlt=>⟨hx,hb.block x hlt⟩,h8.carry fun x hx hlt=>⟨hx,hb.block x hlt⟩⟩
theorem cE.sl' {A:Nat->Prop}{w:World}{l:List iQ}{v:Value}(h:cE A w l v):∃a n c,v=.slice a n c:=by
 obtain ⟨ad,g,cap,h1,_⟩:=h.open;exact ⟨_,_,_,h1⟩
structure Lg {ρ:Type}(A:Nat->Prop) (w:World) (g i:Nat) (s:cC ρ) (ve vd vl:Value) (p ay ar:Option Addr) (gy capy capr:Nat):Prop where
 c0:w.cell? ⟨g,i*9,none⟩=some (sv s.name)
 c1:w.cell? ⟨g,i*9+1,none⟩=some (.bool s.first)
 c2:w.cell? ⟨g,i*9+2,none⟩=some (.bool s.last)
 c3:w.cell? ⟨g,i*9+3,none⟩=some ve
 c4:w.cell? ⟨g,i*9+4,none⟩=some vd
 c5:w.cell? ⟨g,i*9+5,none⟩=some vl
 c6:w.cell? ⟨g,i*9+6,none⟩=some (.pointer p)
 c7:w.cell? ⟨g,i*9+7,none⟩=some (.slice ay s.ways.length capy)
 c8:w.cell? ⟨g,i*9+8,none⟩=some (.slice ar s.regions.length capr)
 he:cE A w s.enter ve
 hd:cE A w s.during vd
 hl:cE A w s.leave vl
 hp:jI A w s.rests (.pointer p)
 hw:s.ways.length≤maxLen/\(0<s.ways.length->ay=some ⟨gy,0,none⟩/\gy<w.heap.size)/\∀m y,s.ways[m]?=some y->∃p q,iV A w gy (m*7) y p q
theorem Lg.below {ρ:Type}{A:Nat->Prop}{w w':World}{g i:Nat}{s:cC ρ}{ve vd vl:Value}{p ay ar:Option Addr}{gy capy capr:Nat}(h:Lg A w g i s ve vd vl p ay ar gy capy capr) (hb:Below w.heap.size w w'):Lg A w' g i s ve vd vl p ay ar gy capy capr:=
 ⟨aM hb h.c0,aM hb h.c1,aM hb h.c2,aM hb h.c3,aM hb h.c4,aM hb h.c5,aM hb h.c6,aM hb h.c7,aM hb h.c8,h.he.carry fun x hx hlt=>⟨hx,hb.block x hlt⟩,h.hd.carry fun x hx hlt=>⟨hx,hb.block x hlt⟩,h.hl.carry fun x hx hlt=>⟨hx,hb.block x hlt⟩,h.hp.carry fun x hx hlt=>⟨hx,hb.block x hlt⟩,
  h.hw.1,fun hp=>⟨(h.hw.2.1 hp).1,Nat.lt_of_lt_of_le (h.hw.2.1 hp).2 hb.size⟩,fun m y hm=>by obtain ⟨p,q,hq⟩:=h.hw.2.2 m y hm;exact ⟨p,q,hq.below hb⟩⟩
theorem gI.len {ρ:Type}{A:Nat->Prop}{w:World}{I:List ρ->Value->Prop}{l:List (List ρ)}{v:Value}(h:gI A w I l v):∃ad g cap,v=.slice ad l.length cap/\l.length≤maxLen/\(0<l.length->ad=some ⟨g,0,none⟩/\g<w.heap.size)/\∀(i:Nat) (r:List ρ),l[i]?=some r->∃u,w.cell? ⟨g,i,none⟩=some u/\I r u:=by
 obtain ⟨xs,hr,hs⟩:=h
 obtain ⟨ad,g,cap,h1,h2,h3,h4⟩:=uX.open (k:=1) (fun a c ⟨u,hc,_⟩=>by rw[hc];rfl) hr hs
 refine ⟨ad,g,cap,h1,h2,fun hp=>⟨(h3 hp).1,(h3 hp).2.2⟩,fun i a hi=>?_⟩
 obtain ⟨c,⟨u,rfl,hu⟩,hx⟩:=h4 i a hi
 have:=hx 0 u rfl
 rw[Nat.mul_one,Nat.add_zero] at this
 exact ⟨u,this,hu⟩
theorem aL.open {A:Nat->Prop}{w:World}{k:Nat}{l:List (cC (St k))}{v:Value}(h:aL A w (k+1) l v) :
    ∃ad g cap,v=.slice ad l.length cap/\l.length≤maxLen/\(0<l.length->ad=some ⟨g,0,none⟩/\g<w.heap.size)/\∀(i:Nat) (s:cC (St k)),l[i]?=some s->∃ve vd vl p ay ar gy capy capr,Lg A w g i s ve vd vl p ay ar gy capy capr/\gI A w (aL A w k) s.regions (.slice ar s.regions.length capr):=by
 obtain ⟨xs,hr,hs⟩:=h
 obtain ⟨ad,g,cap,h1,h2,h3,h4⟩:=uX.open (k:=9) (fun a c ⟨e,d,l,p,y,r,hc,_⟩=>by rw[hc];rfl) hr hs
 refine ⟨ad,g,cap,h1,h2,fun hp=>⟨(h3 hp).1,(h3 hp).2.2⟩,fun i s hi=>?_⟩
 obtain ⟨c,⟨e,d,l,p,y,r,rfl,q1,q2,q3,q4,q5,q6⟩,hx⟩:=h4 i s hi
 obtain ⟨u,rfl⟩:=q4.pt'
 obtain ⟨ay,gy,capy,rfl,y1,y2,y3⟩:=q5.open
 obtain ⟨ar,gr,capr,rfl,_⟩:=q6.len
 exact ⟨e,d,l,u,ay,ar,gy,capy,capr,⟨hx 0 _ rfl,hx 1 _ rfl,hx 2 _ rfl,hx 3 _ rfl,hx 4 _ rfl,hx 5 _ rfl,hx 6 _ rfl,hx 7 _ rfl,hx 8 _ rfl,q1,q2,q3,q4,y1,y2,y3⟩,q6⟩
section
variable {ρ:Type}
def B7 (s:cC ρ):Prop:=s.name.length≤maxLen/\lF s.enter/\lF s.during/\lF s.leave/\zB s.rests/\(∀y∈s.ways,Sl y)/\s.ways.length≤1000000
theorem vV {vs:List bJ}{ns:List bB}{b:Bool}{l:List Wy}(k:Nat) (hz:∀j y,j<k->l[j]?=some y->mY vs ns b y=0):kL vs ns b l=kL vs ns b (l.drop k):=by
 induction k generalizing l with
 | zero=>rfl
 | succ k ih=>
  cases l with
  | nil=>rfl
  | cons a r=>
   rw[kL,if_neg (by simpa using hz 0 a (by omega) rfl),List.drop_succ_cons]
   exact ih fun j a' hj ha=>hz (j+1) a' (by omega) (by simpa using ha)
theorem Ly {vs:List bJ}{ns:List bB}{b:Bool}{l:List Wy}{k:Nat}{a:Wy}(hz:∀j y,j<k->l[j]?=some y->mY vs ns b y=0) (ha:l[k]?=some a) (hne:mY vs ns b a≠0):kL vs ns b l=mY vs ns b a:=by
 rw[vV k hz]
 have:l.drop k=a::l.drop (k+1):=by
  obtain ⟨hk,rfl⟩:=List.getElem?_eq_some_iff.1 ha
  exact List.drop_eq_getElem_cons hk
 rw[this,kL,if_pos hne]
theorem Gz {vs:List bJ}{ns:List bB}{b:Bool}{l:List Wy}(hz:∀j y,j<l.length->l[j]?=some y->mY vs ns b y=0):kL vs ns b l=0:=by
 rw[vV l.length hz,List.drop_length];rfl
end
end
section
open Go.RowKit Px
theorem aL4 (a b c:Value) (w:World):(Instr.index 295 (.agg #[a,b,c]) (.int .i64 0)).run Tryz.prog w=.ok a w:=by kernel_rfl
theorem aL3 (a b c:Value) (w:World):(Instr.index 295 (.agg #[a,b,c]) (.int .i64 1)).run Tryz.prog w=.ok b w:=by kernel_rfl
theorem aL2 (a b c:Value) (w:World):(Instr.index 295 (.agg #[a,b,c]) (.int .i64 2)).run Tryz.prog w=.ok c w:=by kernel_rfl
section
variable {ρ:Type}{ck pb mb nm gv:Nat}{adv:Option Addr}{capv:Nat}{vs:List bJ}
theorem Ab {w:World}{n:Nat}(h:jV w ck pb mb nm gv adv capv vs n) {s:cC ρ}{ns:List bB}{A:Nat->Prop}{ad:Option Addr}{g N cap i pb2 mb2 nm2:Nat}{ve vd vl:Value}{p ay ar:Option Addr}{gy capy capr:Nat}(hi:i<N) (ha:0<N->ad=some ⟨g,0,none⟩)
    (hM:Lg A w g i s ve vd vl p ay ar gy capy capr) (hN:B7 s) (hp2:w.heap[pb2]?=some (.cells #[.map (some mb2)] 213 (0,0))) (hm2:gY w mb2 nm2 (jK ns)) :
    Calls Tryz.prog 194 #[.pointer (some ⟨ck,0,none⟩),.slice ad N cap,.int .i64 (i:Int),.func (.func 143) #[] #[.pointer (some ⟨pb2,0,none⟩)]] w fun r w'=>r=.returned (.int .i64 ((iY vs ns i s:Nat):Int))/\Below w.heap.size w w':=by
 obtain ⟨n0,n1,n2,n3,n4,n5,n6⟩:=hN
 have hf:=mQ (s:=s.name) hp2 hm2 n0
 have hix:=Ve ad g N cap i hi ha
 have c0:=hM.c0
 obtain ⟨I,hI⟩:∃I,Hid (eB ns s.name=I):=⟨_,rfl⟩
 rw[hI.out] at hf
 obtain ⟨S,hS⟩:∃S,sv s.name=S:=⟨_,rfl⟩
 rw[hS] at c0 hf
 have HM:Hid (∀w',Below w.heap.size w w'->Lg A w' g i s ve vd vl p ay ar gy capy capr):=fun w' hb=>hM.below hb
 have HC:Hid (∀w',Below w.heap.size w w'->jV w' ck pb mb nm gv adv capv vs n):=fun w' hb=>h.below hb
 have HF2:Hid (∀w',Below w.heap.size w w'->w'.heap[pb2]?=some (.cells #[.map (some mb2)] 213 (0,0))/\gY w' mb2 nm2 (jK ns)):=fun w' hb=>⟨aH hb hp2,hm2.below hb⟩
 have HNN:Hid (lF s.enter/\lF s.during/\lF s.leave/\zB s.rests/\∀y∈s.ways,Sl y):=⟨n1,n2,n3,n4,n5⟩
 have c2:=hM.c2
 have c7:=hM.c7
 have c8:=hM.c8
 have c3:=hM.c3
 have c4:=hM.c4
 have c5:=hM.c5
 obtain ⟨xe,ye,ze,rfl⟩:=hM.he.sl'
 obtain ⟨xd,yd,zd,rfl⟩:=hM.hd.sl'
 obtain ⟨xl,yl,zl,rfl⟩:=hM.hl.sl'
 clear h hM hp2 hm2 hS n0 n1 n2 n3 n4 n5
 by_cases hlt:I<(i:Int)
 ·have HE:Hid (iY vs ns i s=9):=by unfold Hid iY;rw[if_pos (by rw[hI.out];exact hlt)]
  go_enter Tryz.func194,Tryz.ntmps194
  go_wp2_with (refine hf.mono ?_;rintro e w' ⟨rfl,rfl⟩)
  go_ret
  exact ⟨by rw[HE.out];rfl,Below.refl _ _⟩
 ·obtain ⟨B1,hB1⟩:∃B1,Hid ((s.last&&(decide (0<s.ways.length)||decide (0<s.regions.length)))=B1):=⟨_,rfl⟩
  have HE:Hid (iY vs ns i s=if B1 then 6 else if cU vs s.enter≠0 then cU vs s.enter else if cU vs s.during≠0 then cU vs s.during else if cU vs s.leave≠0 then cU vs s.leave else if dF (cD vs) s.rests then 5 else kL vs ns (decide (0<s.regions.length)) s.ways):=by
   unfold Hid iY;rw[if_neg (by rw[hI.out];exact hlt)];unfold yG;rw[hB1.out]
  go_enter Tryz.func194,Tryz.ntmps194
  go_upto_region 4 with (refine hf.mono ?_;rintro e w' ⟨rfl,hw'⟩;obtain rfl:=hw'.symm)
  clear hf hlt
  go_cut [45] (fun s wx=>Hid (s=.bool B1/\wx=w))
  case first=>
   obtain ⟨la,hla⟩:∃la,Hid (s.last=la):=⟨_,rfl⟩
   rw[hla.out] at c2
   obtain ⟨NW,hNW⟩:∃NW,Hid (s.ways.length=NW):=⟨_,rfl⟩
   obtain ⟨NR,hNR⟩:∃NR,Hid (s.regions.length=NR):=⟨_,rfl⟩
   rw[hNW.out] at c7
   rw[hNR.out] at c8
   have hBB:=hB1.out
   rw[hla.out,hNW.out,hNR.out] at hBB
   clear HE HM HC HF2 HNN
   cases la with
   | false=>
    have hBt:B1=false:=by rw[<-hBB];rfl
    subst hBt
    clear hBB
    go_wp2_with fail
    go_meet
    case rel=>exact ⟨rfl,rfl⟩
   | true=>
    by_cases h1:0<NW
    ·have hBt:B1=true:=by rw[<-hBB];simp[h1]
     subst hBt
     have h1':(0:Int)<(NW:Int):=by omega
     clear hBB
     go_wp2_with fail
     go_meet
     case rel=>exact ⟨rfl,rfl⟩
    ·have h1':¬(0:Int)<(NW:Int):=by omega
     by_cases h2:0<NR
     ·have hBt:B1=true:=by rw[<-hBB];simp[h2]
      subst hBt
      have h2':(0:Int)<(NR:Int):=by omega
      clear hBB
      go_wp2_with fail
      go_meet
      case rel=>exact ⟨rfl,rfl⟩
     ·have hBt:B1=false:=by rw[<-hBB];simp[h1,h2]
      subst hBt
      have h2':¬(0:Int)<(NR:Int):=by omega
      clear hBB
      go_wp2_with fail
      go_meet
      case rel=>exact ⟨rfl,rfl⟩
  case rest=>
   obtain ⟨hs,hw⟩:=hcut.out
   subst hs
   subst hw
   clear hcut c0 c2 c7 c8 hB1 hix
   cases B1 with
   | true=>
    rw[if_pos rfl] at HE
    go_wp2_with fail
    go_ret
    exact ⟨by rw[HE.out];rfl,Below.refl _ _⟩
   | false=>
    rw[if_neg (by simp)] at HE
    go_upto_region 6 with fail
    obtain ⟨W0,hW0⟩:∃W0,W0=wc:=⟨_,rfl⟩
    subst hW0
    go_cut [58,59] (fun s58 s59 wx=>Hid (s58=.agg #[.slice xe ye ze,.slice xd yd zd,.slice xl yl zl]/\s59=.int .i64 0/\Below W0.heap.size W0 wx))
    case first=>
     go_quiet (fail)
     go_wp2_with fail
     go_meet
     case rel=>exact ⟨rfl,rfl,rfl,rfl,rfl,Nat.le_refl _,fun _ _=>rfl⟩
    case rest=>
     obtain ⟨h58,h59,hBw⟩:=hcut.out
     subst h58
     subst h59
     have HBW:Hid (Below W0.heap.size W0 wc):=hBw
     clear hcut c3 c4 c5 hBw
     go_wp2_with fail
     go_loopg [59] 3 (fun f i wr=>∃k:Nat,f=3-k/\k≤3/\i=.int .i64 (k:Int)/\Hid (Below W0.heap.size W0 wr/\(0<k->cU vs s.enter=0)/\(1<k->cU vs s.during=0)/\(2<k->cU vs s.leave=0)))
     case atStart=>exact ⟨0,by omega,by omega,rfl,HBW.out,fun h=>absurd h (by omega),fun h=>absurd h (by omega),fun h=>absurd h (by omega)⟩
     case round=>
      obtain ⟨k,rfl,hk,rfl,hr⟩:=hrel
      have hBr:=hr.out.1
      have HBR:Hid (Below W0.heap.size W0 wr):=hBr
      have HZ:Hid ((0<k->cU vs s.enter=0)/\(1<k->cU vs s.during=0)/\(2<k->cU vs s.leave=0)):=hr.out.2
      clear hr
      have hk4:k=0\/k=1\/k=2\/k=3:=by omega
      rcases hk4 with rfl|rfl|rfl|rfl
      ·rw[show ((0:Nat):Int)=0 from rfl]
       have hx:=aL4 (.slice xe ye ze) (.slice xd yd zd) (.slice xl yl zl)
       have hcall:=nN (HC.out wr hBr) (HM.out wr hBr).he HNN.out.1
       by_cases hz:cU vs s.enter=0
       ·have H0:Hid (cU vs s.enter=0):=hz
        rw[hz] at hcall
        rw[show ((0:Nat):Int)=0 from rfl] at hcall
        clear hz
        go_wp2_with (refine hcall.mono ?_;rintro e w' ⟨rfl,hw⟩)
        go_roundg (3-1)
        case measure=>omega
        case rel=>exact ⟨1,rfl,by omega,by go_num,aN HBR.out hw,fun _=>H0.out,fun h=>absurd h (by omega),fun h=>absurd h (by omega)⟩
       ·obtain ⟨M,hM⟩:∃M,Hid (cU vs s.enter=M):=⟨_,rfl⟩
        rw[hM.out] at hcall
        have HX:Hid (cU vs s.enter≠0):=hz
        have hz1:¬(M:Int)=0:=by rw[hM.out] at hz;omega
        have hz2:((M:Int)==0)=false:=by simp;omega
        clear hz
        go_wp2_with (refine hcall.mono ?_;rintro e w' ⟨rfl,hw⟩)
        go_ret
        exact ⟨by rw[HE.out,if_pos HX.out,hM.out];rfl,aN HBR.out hw⟩
      ·rw[show ((1:Nat):Int)=1 from rfl]
       have hx:=aL3 (.slice xe ye ze) (.slice xd yd zd) (.slice xl yl zl)
       have hcall:=nN (HC.out wr hBr) (HM.out wr hBr).hd HNN.out.2.1
       by_cases hz:cU vs s.during=0
       ·have H1:Hid (cU vs s.during=0):=hz
        rw[hz] at hcall
        rw[show ((0:Nat):Int)=0 from rfl] at hcall
        clear hz
        go_wp2_with (refine hcall.mono ?_;rintro e w' ⟨rfl,hw⟩)
        go_roundg (3-2)
        case measure=>omega
        case rel=>exact ⟨2,rfl,by omega,by go_num,aN HBR.out hw,fun h=>HZ.out.1 (by omega),fun _=>H1.out,fun h=>absurd h (by omega)⟩
       ·obtain ⟨M,hM⟩:∃M,Hid (cU vs s.during=M):=⟨_,rfl⟩
        rw[hM.out] at hcall
        have HX:Hid (cU vs s.during≠0):=hz
        have hz1:¬(M:Int)=0:=by rw[hM.out] at hz;omega
        have hz2:((M:Int)==0)=false:=by simp;omega
        clear hz
        go_wp2_with (refine hcall.mono ?_;rintro e w' ⟨rfl,hw⟩)
        go_ret
        exact ⟨by rw[HE.out,if_neg (by rw[HZ.out.1 (by omega)];simp),if_pos HX.out,hM.out];rfl,aN HBR.out hw⟩
      ·rw[show ((2:Nat):Int)=2 from rfl]
       have hx:=aL2 (.slice xe ye ze) (.slice xd yd zd) (.slice xl yl zl)
       have hcall:=nN (HC.out wr hBr) (HM.out wr hBr).hl HNN.out.2.2.1
       by_cases hz:cU vs s.leave=0
       ·have H2:Hid (cU vs s.leave=0):=hz
        rw[hz] at hcall
        rw[show ((0:Nat):Int)=0 from rfl] at hcall
        clear hz
        go_wp2_with (refine hcall.mono ?_;rintro e w' ⟨rfl,hw⟩)
        go_roundg (3-3)
        case measure=>omega
        case rel=>exact ⟨3,rfl,by omega,by go_num,aN HBR.out hw,fun h=>HZ.out.1 (by omega),fun h=>HZ.out.2.1 (by omega),fun _=>H2.out⟩
       ·obtain ⟨M,hM⟩:∃M,Hid (cU vs s.leave=M):=⟨_,rfl⟩
        rw[hM.out] at hcall
        have HX:Hid (cU vs s.leave≠0):=hz
        have hz1:¬(M:Int)=0:=by rw[hM.out] at hz;omega
        have hz2:((M:Int)==0)=false:=by simp;omega
        clear hz
        go_wp2_with (refine hcall.mono ?_;rintro e w' ⟨rfl,hw⟩)
        go_ret
        exact ⟨by rw[HE.out,if_neg (by rw[HZ.out.1 (by omega)];simp),if_neg (by rw[HZ.out.2.1 (by omega)];simp),if_pos HX.out,hM.out];rfl,aN HBR.out hw⟩
      ·rw[show ((3:Nat):Int)=3 from rfl]
       have HE2:Hid (iY vs ns i s=if dF (cD vs) s.rests then 5 else kL vs ns (decide (0<s.regions.length)) s.ways):=by
        rw[Hid,HE.out,if_neg (by rw[HZ.out.1 (by omega)];simp),if_neg (by rw[HZ.out.2.1 (by omega)];simp),if_neg (by rw[HZ.out.2.2 (by omega)];simp)]
       have c6:=(HM.out wr hBr).c6
       have hst:=oL (HC.out wr hBr) (HM.out wr hBr).hp HNN.out.2.2.2.1
       obtain ⟨Z,hZ⟩:∃Z,Hid (dF (cD vs) s.rests=Z):=⟨_,rfl⟩
       rw[hZ.out] at HE2 hst
       clear HZ HE
       cases Z with
       | true=>
        rw[if_pos rfl] at HE2
        go_wp2_with (refine hst.mono ?_;rintro e w' ⟨rfl,hw⟩)
        go_ret
        exact ⟨by rw[HE2.out];rfl,aN HBR.out hw⟩
       | false=>
        rw[if_neg (by simp)] at HE2
        obtain ⟨NW,hNW⟩:∃NW,Hid (s.ways.length=NW):=⟨_,rfl⟩
        obtain ⟨NR,hNR⟩:∃NR,Hid (s.regions.length=NR):=⟨_,rfl⟩
        have HW:Hid (∀w',Below W0.heap.size W0 w'->w'.cell? ⟨g,i*9+7,none⟩=some (.slice ay NW capy)/\w'.cell? ⟨g,i*9+8,none⟩=some (.slice ar NR capr)/\(0<NW->ay=some ⟨gy,0,none⟩)/\∀m y,s.ways[m]?=some y->∃p q,iV A w' gy (m*7) y p q):=fun w' hb=>by
         have:=HM.out w' hb
         rw[<-hNW.out,<-hNR.out]
         exact ⟨this.c7,this.c8,fun hp=>(this.hw.2.1 hp).1,this.hw.2.2⟩
        rw[hNR.out] at HE2
        have hNW6:NW≤1000000:=by rw[<-hNW.out];exact n6
        clear n6
        go_upto_region 15 with (refine hst.mono ?_;rintro e w' ⟨rfl,hw⟩)
        have HB2:Hid _:=aN HBR.out hw
        have d7:=(HW.out w' HB2.out).1
        clear hst c6 hw hBr HBR HM
        go_wp2_with fail
        clear d7
        have hR:(0<NR/\(0:Int)<(NR:Int))\/(¬0<NR/\¬(0:Int)<(NR:Int)):=by omega
        rcases hR with ⟨hR,hR'⟩|⟨hR,hR'⟩
        all_goals
         obtain ⟨ins,hins⟩:∃ins,decide (0<NR)=ins:=⟨_,rfl⟩
         rw[hins] at HE2
         go_loopg [80] NW (fun f i wr=>∃k:Nat,f=NW-k/\k≤NW/\i=.int .i64 (k:Int)/\Hid (Below W0.heap.size W0 wr/\∀j y,j<k->s.ways[j]?=some y->mY vs ns ins y=0))
         case atStart=>exact ⟨0,by omega,by omega,rfl,HB2.out,fun j y hj=>absurd hj (by omega)⟩
         case round=>
          obtain ⟨k,rfl,hk,rfl,hr⟩:=hrel
          by_cases hlt:k<NW
          ·obtain ⟨y,hyk⟩:∃y,Hid (s.ways[k]?=some y):=⟨s.ways[k]'(by rw[hNW.out];exact hlt),by rw[Hid,List.getElem?_eq_getElem]⟩
           have hBr:=hr.out.1
           have hBd:=hBr.drew
           obtain ⟨d7,d8,hay,hys⟩:=HW.out wr hBr
           obtain ⟨-,-,-,hys'⟩:=HW.out wr.drew hBd
           obtain ⟨p',q',m0,m1,m2,m3,m4,m5,m6,m7,m8⟩:=hys' k y hyk.out
           have hcall:=Kt (HC.out wr.drew hBd) ins m0 m1 m2 m3 m4 m5 m7 m8 (HNN.out.2.2.2.2 y (List.mem_of_getElem? hyk.out)) (HF2.out wr.drew hBd).1 (HF2.out wr.drew hBd).2
           have hixy:=ixW ay gy NW capy k hlt hay
           have HBR:Hid _:=hBd
           have HZ:Hid _:=hr.out.2
           obtain ⟨M,hM⟩:∃M,Hid (mY vs ns ins y=M):=⟨_,rfl⟩
           rw[hM.out] at hcall
           have hinv:ins=decide ((0:Int)<(NR:Int)):=by rw[<-hins];simp
           first
           | (rw[decide_eq_true hR'] at hinv)
           | (rw[decide_eq_false hR'] at hinv)
           rw[hinv] at hcall
           clear hr hBr hBd hay hys hys' m0 m1 m2 m3 m4 m5 m6 m7 m8 hinv
           go_upto_region 18 with fail
           go_cut [14] (fun s14 wx=>Hid (s14=.int .i64 (M:Int)/\Below wr.drew.heap.size wr.drew wx))
           case first=>
            go_region_with (go_at_call 228;refine hcall.mono ?_;rintro e w' ⟨rfl,hw⟩)
            all_goals
             go_wp2_with fail
             go_meet
             case rel=>exact ⟨rfl,hw⟩
           case rest=>
            obtain ⟨h14,hw⟩:=hcut.out
            subst h14
            have HB3:Hid _:=aN HBR.out hw
            clear hcut hw hcall d7 d8 hixy
            by_cases hz:M=0
            ·subst hz
             rw[show ((0:Nat):Int)=0 from rfl]
             go_wp2_with fail
             go_roundg (NW-(k+1))
             case measure=>omega
             case rel=>
              refine ⟨k+1,rfl,by omega,by go_num,HB3.out,fun j y' hj hy'=>?_⟩
              by_cases e:j=k
              ·subst e
               have:=hyk.out
               rw[hy'] at this
               injection this with this
               subst this
               exact hM.out
              ·exact HZ.out j y' (by omega) hy'
            ·have hz1:¬(M:Int)=0:=by omega
             have hz2:((M:Int)==0)=false:=by simp;omega
             have HX:Hid (kL vs ns ins s.ways=M):=by rw[Hid,Ly HZ.out hyk.out (by rw[hM.out];exact hz),hM.out]
             go_wp2_with fail
             go_ret
             exact ⟨by rw[HE2.out,HX.out];rfl,HB3.out⟩
          ·obtain rfl:k=NW:=by omega
           have HX:Hid (kL vs ns ins s.ways=0):=Gz (by rw[hNW.out];exact hr.out.2)
           have HB3:Hid _:=hr.out.1
           clear hr
           go_wp2_with fail
           go_ret
           exact ⟨by rw[HE2.out,HX.out];rfl,HB3.out⟩
end
end
end Go.Proofs.YtcdbhoknhnimcaaGreatDoor
