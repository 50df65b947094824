import Derived.Test.YtcdbhoknhnimcaaGreatDoorTCs5
import Derived.Shelf.LaysC
import Derived.Shelf.Strconv.ParseIntPublic10
import Derived.Test.YtcdbhoknhnimcaaGreatDoorProg
import Derived.Test.YtcdbhoknhnimcaaGreatDoorTCr
import Derived.WalkKit
set_option maxRecDepth 100000
set_option maxHeartbeats 8000000
namespace Go.Proofs.YtcdbhoknhnimcaaGreatDoor
section
open Go.RowKit Px
theorem Lg.sts {ρ:Type}{A:Nat->Prop}{w:World}{g:Nat}{l:List (cC ρ)}(hg:0<l.length->g<w.heap.size) (h:∀(i:Nat) (s:cC ρ),l[i]?=some s->∃ve vd vl p ay ar gy capy capr,Lg A w g i s ve vd vl p ay ar gy capy capr) (hN:∀s∈l,B7 s):lV w g l:=by
 intro i s hi
 obtain ⟨ve,vd,vl,p,ay,ar,gy,capy,capr,hM⟩:=h i s hi
 have hs:=hN s (List.mem_of_getElem? hi)
 refine ⟨hg (by have:=(List.getElem?_eq_some_iff.1 hi).1;omega),hM.c0,hM.c1,hs.1,hs.2.2.2.2.2.2,ay,gy,capy,hM.c7,hM.hw.2.1,fun m y hm=>?_⟩
 obtain ⟨p',q',m0,m1,m2,m3,m4,m5,m6,m7,m8⟩:=hM.hw.2.2 m y hm
 obtain ⟨a,b,c,rfl⟩:=m8.sl'
 exact ⟨p',_,m0,m1,m2,m3,m4,m5,m6,⟨a,b,c,rfl⟩,(hs.2.2.2.2.2.1 y (List.mem_of_getElem? hm)).1⟩
theorem Z2 {ρ:Type}{l:List (cC ρ)}{k:Nat}{s:cC ρ}(h:l[k]?=some s):iS (l.take (k+1))=iS (l.take k)+if s.first then 1 else 0:=by
 unfold iS
 rw[List.take_add_one,h]
 rw[List.filter_append,List.length_append]
 cases hf:s.first<;>simp[hf]
theorem Kh {ρ:Type}(l:List (cC ρ)):iS l≤l.length:=List.length_filter_le _ _
theorem pR {ρ:Type}{w:World}{ad:Option Addr}{g n cap:Nat}{l:List (cC ρ)}(hn:Hid (n=l.length)) (hm:n≤1000000) (ha:0<n->ad=some ⟨g,0,none⟩) (hS:lV w g l) :
    Calls Tryz.prog 195 #[.slice ad n cap] w fun e w'=>e=.returned (.int .i64 ((cN l:Nat):Int))/\Below w.heap.size w w':=by
 have hcall:=V6 (cap:=cap) (l:=l) (oo:=eJ (cL l)) rfl hn hm ha hS
 have HS:Hid _:=hS
 have HA:Hid (0<n->ad=some ⟨g,0,none⟩):=ha
 clear hS ha
 go_enter Tryz.func195,Tryz.ntmps195
 go_wp2_with fail
 go_loopg [3,9] n (fun f c i wr=>∃k:Nat,f=n-k/\k≤n/\c=.int .i64 ((iS (l.take k):Nat):Int)/\i=.int .i64 (k:Int)/\Hid (wr=w))
 case atStart=>exact ⟨0,by omega,by omega,rfl,rfl,rfl⟩
 case round=>
  obtain ⟨k,rfl,hk,rfl,rfl,hw⟩:=hrel
  obtain rfl:=hw.out
  clear hw
  by_cases hlt:k<n
  ·obtain ⟨s,hs⟩:∃s,Hid (l[k]?=some s):=⟨l[k]'(by rw[<-hn.out];exact hlt),by rw[Hid,List.getElem?_eq_getElem]⟩
   obtain ⟨-,-,c1,-⟩:=HS.out k s hs.out
   have hix:=Ve ad g n cap k hlt HA.out
   have hF:iS (l.take k)≤1000000:=by
    have:=Kh (l.take k)
    have h2:(l.take k).length≤k:=by rw[List.length_take];omega
    omega
   have HT:=Z2 hs.out
   obtain ⟨F,hFF⟩:∃F,Hid (iS (l.take k)=F):=⟨_,rfl⟩
   rw[hFF.out] at HT hF ⊢
   obtain ⟨b,hb⟩:∃b,Hid (s.first=b):=⟨_,rfl⟩
   rw[hb.out] at c1 HT
   have HT2:Hid _:=HT
   clear HT
   cases b with
   | false=>
    go_wp2_with fail
    go_roundg (n-(k+1))
    case measure=>omega
    case rel=>exact ⟨k+1,rfl,by omega,by rw[HT2.out];rfl,by go_num,rfl⟩
   | true=>
    go_wp2_with fail
    go_roundg (n-(k+1))
    case measure=>omega
    case rel=>exact ⟨k+1,rfl,by omega,by rw[HT2.out];go_num,by go_num,rfl⟩
  ·obtain rfl:k=n:=by omega
   rw[show l.take k=l by rw[hn.out];exact List.take_length]
   obtain ⟨F,hFF⟩:∃F,Hid (iS l=F):=⟨_,rfl⟩
   have HE:Hid (cN l=if F=0 then 8 else if 1<F then 12 else if (eJ (cL l)).isNone then 11 else 0):=by unfold Hid cN;rw[hFF.out]
   rw[hFF.out]
   by_cases h0:F=0
   ·subst h0
    rw[if_pos rfl] at HE
    rw[show ((0:Nat):Int)=0 from rfl]
    go_wp2_with fail
    go_ret
    exact ⟨by rw[HE.out];rfl,Below.refl _ _⟩
   ·rw[if_neg h0] at HE
    have h1:¬(F:Int)=0:=by omega
    have h2:((F:Int)==0)=false:=by simp;omega
    by_cases h3:1<F
    ·rw[if_pos h3] at HE
     have h4:(1:Int)<(F:Int):=by omega
     go_wp2_with fail
     go_ret
     exact ⟨by rw[HE.out];rfl,Below.refl _ _⟩
    ·rw[if_neg h3] at HE
     have h4:¬(1:Int)<(F:Int):=by omega
     obtain ⟨oo,hoo⟩:∃oo,Hid (eJ (cL l)=oo):=⟨_,rfl⟩
     rw[hoo.out] at hcall HE
     unfold Er at hcall
     cases oo with
     | none=>
      have hcall:Calls Tryz.prog 196 #[.slice ad k cap] wr fun e w'=>e=.returned (.tuple #[.slice none 0 0,.bool false])/\Below wr.heap.size wr w':=hcall.mono fun e w' ⟨hb,ho⟩=>by
       rcases ho with ⟨_,he⟩|⟨_,_,he,_⟩
       ·exact ⟨he,hb⟩
       ·simp at he
      go_wp2_with (refine hcall.mono ?_;rintro e w' ⟨rfl,hb⟩)
      go_ret
      exact ⟨by rw[HE.out];rfl,hb⟩
     | some o=>
      have hcall:Calls Tryz.prog 196 #[.slice ad k cap] wr fun e w'=>∃v,e=.returned (.tuple #[v,.bool true])/\Below wr.heap.size wr w':=hcall.mono fun e w' ⟨hb,ho⟩=>by
       rcases ho with ⟨he,_⟩|⟨_,v,_,he,_⟩
       ·simp at he
       ·exact ⟨v,he,hb⟩
      go_wp2_with (refine hcall.mono ?_;rintro e w' ⟨v,rfl,hb⟩)
      go_ret
      exact ⟨by rw[HE.out];rfl,hb⟩
end
section
open Go.RowKit Px
def gU {α:Type}(f:α->Nat):List α->Nat
 | []=>0
 | a::r=>f a+gU f r
theorem zG {α:Type}(f:α->Nat) {l:List α}{k:Nat}{a:α}(h:l[k]?=some a):gU f (l.drop k)=f a+gU f (l.drop (k+1)):=by
 obtain ⟨hk,rfl⟩:=List.getElem?_eq_some_iff.1 h
 rw[List.drop_eq_getElem_cons hk,gU]
theorem zY {α:Type}{l:List α}{k:Nat}{a:α}(h:l[k]?=some a):l.drop k=a::l.drop (k+1):=by
 obtain ⟨hk,rfl⟩:=List.getElem?_eq_some_iff.1 h
 exact List.drop_eq_getElem_cons hk
section
variable {ρ:Type}{ck pb mb nm gv:Nat}{adv:Option Addr}{capv:Nat}{vs:List bJ}
theorem jV.fr {w w':World}{n n':Nat}(h:jV w ck pb mb nm gv adv capv vs n) (hF:Fr w.heap.size [ck] w w') (hb:w'.heap[ck]?=some (.cells #[.slice adv vs.length capv,.func (.func 143) #[] #[.pointer (some ⟨pb,0,none⟩)],.int .i64 (n':Int)] 163 (0,0))):jV w' ck pb mb nm gv adv capv vs n':=by
 obtain ⟨e1,e2,e3⟩:=h.ne
 refine ⟨hb,by rw[hF.block pb (aB h.hpb) (by simpa using Ne.symm e1)];exact h.hpb,h.hmb.keep (hF.block mb h.hmb.lt (by simpa using Ne.symm e2)),fun hp=>⟨(h.hv hp).1,Nat.lt_of_lt_of_le (h.hv hp).2 hF.size⟩,fun i d hi=>?_,h.ne⟩
 have hp:0<vs.length:=by have:=(List.getElem?_eq_some_iff.1 hi).1;omega
 rw[hF.cell (p:=⟨gv,i*3,none⟩) (h.hv hp).2 (by simpa using Ne.symm (e3 hp))]
 exact h.hk i d hi
def rK (ck pb mb nm gv:Nat) (adv:Option Addr) (capv:Nat) (vs:List bJ) (res:B6) (w:World) (e:Ending) (w':World):Prop:=
 Fr w.heap.size [ck] w w'/\((∃m,res=.ok m/\e=.returned .nilIface/\jV w' ck pb mb nm gv adv capv vs m)\/∃c p g,res=.error (c,p)/\e=.returned (.iface 115 (.pointer (some ⟨g,0,none⟩)))/\w'.heap[g]?=some (.cells #[.int .i64 ((c:Nat):Int),.int .i64 ((p:Nat):Int)] 117 (0,0))/\w.heap.size≤g)
def Ep (A:Nat->Prop) (w:World) (ad:Option Addr) (N:Nat) (l:List (cC ρ)) (Q:World->cC ρ->Value->Prop):Prop:=∃g,(0<N->ad=some ⟨g,0,none⟩/\g<w.heap.size)/\∀(i:Nat) (s:cC ρ),l[i]?=some s->∃ve vd vl p ay ar gy capy capr,Lg A w g i s ve vd vl p ay ar gy capy capr/\Q w s (.slice ar s.regions.length capr)
theorem Ep.sts {A:Nat->Prop}{w:World}{ad:Option Addr}{N:Nat}{l:List (cC ρ)}{Q:World->cC ρ->Value->Prop}(h:Ep A w ad N l Q) (hn:N=l.length) (hN:∀s∈l,B7 s):∃g,(0<N->ad=some ⟨g,0,none⟩)/\lV w g l:=by
 obtain ⟨g,h1,h2⟩:=h
 refine ⟨g,fun hp=>(h1 hp).1,Lg.sts (A:=A) (fun hp=>(h1 (by omega)).2) (fun i s hi=>?_) hN⟩
 obtain ⟨ve,vd,vl,p,ay,ar,gy,capy,capr,hM,_⟩:=h2 i s hi
 exact ⟨ve,vd,vl,p,ay,ar,gy,capy,capr,hM⟩
def Gr (ck pb mb nm gv:Nat) (adv:Option Addr) (capv:Nat) (vs:List bJ) (R:List ρ->Nat->B6) (w:World) (s:cC ρ) (v:Value) (n:Nat):Prop:=
 Calls Tryz.prog 93 #[.pointer (some ⟨ck,0,none⟩),v] w (rK ck pb mb nm gv adv capv vs (gK R s.regions n) w)
theorem zN {w:World}{n:Nat}(h:jV w ck pb mb nm gv adv capv vs n) {A:Nat->Prop}{ad:Option Addr}{N cap:Nat}{l:List (cC ρ)}{R:List ρ->Nat->B6}{Q:World->cC ρ->Value->Prop}(cs:cC ρ->Nat) (hn:Hid (N=l.length))
    (hmem:Hid (∀w',Fr w.heap.size [ck] w w'->Ep A w' ad N l Q)) (hN:Hid (∀s∈l,B7 s)) (hcs:Hid (∀s∈l,∀n m,gK R s.regions n=.ok m->m=n+cs s)) (hbd:Hid (n+gU (fun s=>1+cs s) l≤1000000)) (hNm:N≤1000000)
    (hin:Hid (∀w' s v m,s∈l->Fr w.heap.size [ck] w w'->Q w' s v->jV w' ck pb mb nm gv adv capv vs m->m+cs s≤1000000->Gr ck pb mb nm gv adv capv vs R w' s v m)) :
    Calls Tryz.prog 144 #[.pointer (some ⟨ck,0,none⟩),.slice ad N cap] w (rK ck pb mb nm gv adv capv vs (oI vs R l n) w):=by
 obtain ⟨g0,hg0,hS0⟩:=(hmem.out w (Fr.refl _ _ _)).sts hn.out hN.out
 have hNn:K0 w g0 N (bA l):=by rw[hn.out];exact hS0.names
 have hfd:=nX (cap:=cap) hg0 hNm hNn
 have HC:Hid (jV w ck pb mb nm gv adv capv vs n):=h
 have c2:=aA h.box 2 (u:=.int .i64 (n:Int)) rfl
 clear h hg0 hS0 hNn
 go_enter Tryz.func144,Tryz.ntmps144
 go_upto_region 3 with (refine hfd.mono ?_;rintro e w1 ⟨f,rfl,⟨pb2,mb2,nm2,rfl,hp2,hm2⟩,hb⟩;have HF:Hid (w1.heap[pb2]?=some (.cells #[.map (some mb2)] 213 (0,0))/\gY w1 mb2 nm2 (jK (bA l))/\Below w.heap.size w w1):=⟨hp2,hm2,hb⟩;clear hp2 hm2 hb)
 clear hfd c2
 have HP:Hid (pb2≠ck/\mb2≠ck):=by
  have hbx:=aH HF.out.2.2 HC.out.box
  constructor
  ·intro e
   have:=HF.out.1
   rw[e,hbx] at this
   simp at this
  ·intro e
   obtain ⟨D,⟨es,c,h3,_⟩,_⟩:=HF.out.2.1
   rw[e,hbx] at h3
   simp at h3
 go_wp2_with fail
 go_loopg [20] N (fun f i wr=>∃k:Nat,f=N-k/\k≤N/\i=.int .i64 (k:Int)/\Hid (∃m,jV wr ck pb mb nm gv adv capv vs m/\Fr w.heap.size [ck] w wr/\fV vs R (bA l) l 0 n=fV vs R (bA l) (l.drop k) k m/\m+gU (fun s=>1+cs s) (l.drop k)≤1000000/\wr.heap[pb2]?=some (.cells #[.map (some mb2)] 213 (0,0))/\gY wr mb2 nm2 (jK (bA l))))
 case atStart=>exact ⟨0,by omega,by omega,rfl,n,HC.out.below HF.out.2.2,Fr.of_below HF.out.2.2 _,rfl,hbd.out,HF.out.1,HF.out.2.1⟩
 case round=>
  obtain ⟨k,rfl,hk,rfl,hr⟩:=hrel
  obtain ⟨m,hC,hFr,hst,hsum,hp2,hm2⟩:=hr.out
  clear hr
  by_cases hlt:k<N
  ·obtain ⟨s,hs⟩:∃s,l[k]?=some s:=⟨l[k]'(by rw[<-hn.out];exact hlt),by rw[List.getElem?_eq_getElem]⟩
   have hsm:=List.mem_of_getElem? hs
   rw[zG _ hs] at hsum
   rw[zY hs,fV] at hst
   have d2:=aA hC.box 2 (u:=.int .i64 (m:Int)) rfl
   have z2:=aE hC.box 2
   have hwr:IntKind.i64.wrap ((m:Int)+1)=(m:Int)+1:=by rw[IntKind.wrap_i64];omega
   obtain ⟨wa,hwa⟩:∃wa,wa=wr.setCell ⟨ck,2,none⟩ (.int .i64 ((m:Int)+1)):=⟨_,rfl⟩
   have hFa:Fr wr.heap.size [ck] wr wa:=by rw[hwa];exact (Fr.refl _ _ _).setCell (.inr (by simp)) _
   have hCa:jV wa ck pb mb nm gv adv capv vs (m+1):=hC.fr hFa (by
    rw[hwa]
    exact bQ (l:=[.slice adv vs.length capv,.func (.func 143) #[] #[.pointer (some ⟨pb,0,none⟩)],.int .i64 (m:Int)]) hC.box 2 _)
   have hFwa:=lD hFr hFa
   obtain ⟨g,hg1,hg2⟩:=hmem.out wa hFwa
   obtain ⟨ve,vd,vl,p,ay,ar,gy,capy,capr,hM,-⟩:=hg2 k s hs
   have hp2a:wa.heap[pb2]?=some (.cells #[.map (some mb2)] 213 (0,0)):=by rw[hFa.block pb2 (aB hp2) (by simpa using HP.out.1)];exact hp2
   have hm2a:gY wa mb2 nm2 (jK (bA l)):=hm2.keep (hFa.block mb2 hm2.lt (by simpa using HP.out.2))
   have hcall:=Ab (cap:=cap) hCa hlt (fun h=>(hg1 h).1) hM (hN.out s hsm) hp2a hm2a
   obtain ⟨E,hE⟩:∃E,Hid (iY vs (bA l) k s=E):=⟨_,rfl⟩
   rw[hE.out] at hcall hst
   have HR:Hid _:=hst
   have HA:Hid (_/\_/\_/\_):=⟨hCa,hFwa,hp2a,hm2a⟩
   have HSU:Hid _:=hsum
   have HSM:Hid _:=hs
   rw[hwa] at hcall
   clear hC hFr hst hsum hp2 hm2 hs hsm hFa hCa hFwa hg1 hg2 hM hp2a hm2a
   by_cases hE0:E=0
   ·subst hE0
    rw[if_neg (by simp)] at HR
    rw[show ((0:Nat):Int)=0 from rfl] at hcall
    rw[<-hwa] at hcall
    have HIN:Hid (∀w',Below wa.heap.size wa w'->w'.heap[pb2]?=some (.cells #[.map (some mb2)] 213 (0,0))/\gY w' mb2 nm2 (jK (bA l))/\Fr w.heap.size [ck] w w'/\∃g ar capr,(0<N->ad=some ⟨g,0,none⟩)/\w'.cell? ⟨g,k*9+8,none⟩=some (.slice ar s.regions.length capr)/\Gr ck pb mb nm gv adv capv vs R w' s (.slice ar s.regions.length capr) (m+1)):=fun w' hb=>by
     have hF':Fr w.heap.size [ck] w w':=lD HA.out.2.1 (Fr.of_below hb _)
     obtain ⟨g,hg1,hg2⟩:=hmem.out w' hF'
     obtain ⟨ve,vd,vl,p,ay,ar,gy,capy,capr,hM,hQ⟩:=hg2 k s HSM.out
     exact ⟨aH hb HA.out.2.2.1,HA.out.2.2.2.below hb,hF',g,ar,capr,fun h=>(hg1 h).1,hM.c8,hin.out w' s _ (m+1) (List.mem_of_getElem? HSM.out) hF' hQ (HA.out.1.below hb) (by have:=HSU.out;omega)⟩
    rw[hwa] at hcall
    cases hrs:gK R s.regions (m+1) with
    | error x=>
     obtain ⟨c,pl⟩:=x
     rw[hrs] at HR
     have HRE:Hid (oI vs R l n=.error (c,pl)):=by unfold Hid oI;rw[HR.out]
     go_upto_region 11 with (go_at_call 194;refine hcall.mono ?_;rintro e w' ⟨rfl,hw⟩;rw[<-hwa] at hw;obtain ⟨-,-,hF',g,ar,capr,hgg,c8,hI⟩:=HIN.out w' hw;unfold Gr at hI;rw[hrs] at hI;have HI:Hid _:=hF';have hix:=Ve ad g N cap k hlt hgg;clear hw hF' hcall)
     have hI2:Calls Tryz.prog 93 #[.pointer (some ⟨ck,0,none⟩),.slice ar s.regions.length capr] w' fun e w''=>∃g,e=.returned (.iface 115 (.pointer (some ⟨g,0,none⟩)))/\Hid (w''.heap[g]?=some (.cells #[.int .i64 ((c:Nat):Int),.int .i64 ((pl:Nat):Int)] 117 (0,0))/\w'.heap.size≤g/\Fr w'.heap.size [ck] w' w''):=hI.mono fun e w'' ⟨hF,ho⟩=>by
      rcases ho with ⟨_,he,_⟩|⟨c',p',g',he,h1,h2,h3⟩
      ·simp at he
      ·injection he with he
       injection he with e1 e2
       subst e1;subst e2
       exact ⟨g',h1,h2,h3,hF⟩
     clear hI
     go_wp2_with (refine hI2.mono ?_;rintro e w'' ⟨ge,rfl,hge⟩)
     go_ret
     refine ⟨lD HI.out hge.out.2.2,.inr ⟨c,pl,ge,HRE.out,rfl,hge.out.1,Nat.le_trans HI.out.size hge.out.2.1⟩⟩
    | ok m2=>
     rw[hrs] at HR
     have hm2:=hcs.out s (List.mem_of_getElem? HSM.out) _ _ hrs
     go_upto_region 11 with (go_at_call 194;refine hcall.mono ?_;rintro e w' ⟨rfl,hw⟩;rw[<-hwa] at hw;obtain ⟨hpw,hmw,hF',g,ar,capr,hgg,c8,hI⟩:=HIN.out w' hw;unfold Gr at hI;rw[hrs] at hI;have HI:Hid (_/\_/\_):=⟨hF',hpw,hmw⟩;have hix:=Ve ad g N cap k hlt hgg;clear hw hF' hcall hpw hmw)
     have hI2:Calls Tryz.prog 93 #[.pointer (some ⟨ck,0,none⟩),.slice ar s.regions.length capr] w' fun e w''=>e=.returned .nilIface/\Hid (jV w'' ck pb mb nm gv adv capv vs m2/\Fr w'.heap.size [ck] w' w''):=hI.mono fun e w'' ⟨hF,ho⟩=>by
      rcases ho with ⟨m',he,h1,h2⟩|⟨_,_,_,he,_⟩
      ·injection he with he
       subst he
       exact ⟨h1,h2,hF⟩
      ·simp at he
     clear hI
     go_wp2_with (refine hI2.mono ?_;rintro e w'' ⟨rfl,hge⟩)
     go_roundg (N-(k+1))
     case measure=>omega
     case rel=>
      refine ⟨k+1,rfl,by omega,by go_num,m2,hge.out.1,lD HI.out.1 hge.out.2,HR.out,by have:=HSU.out;omega,?_,?_⟩
      ·rw[hge.out.2.block pb2 (aB HI.out.2.1) (by simpa using HP.out.1)];exact HI.out.2.1
      ·exact HI.out.2.2.keep (hge.out.2.block mb2 HI.out.2.2.lt (by simpa using HP.out.2))
   ·rw[if_pos hE0] at HR
    have HRE:Hid (oI vs R l n=.error (E,m)):=by unfold Hid oI;rw[HR.out]
    have h1:¬(E:Int)=0:=by omega
    have h2:((E:Int)==0)=false:=by simp;omega
    go_wp2_with (refine hcall.mono ?_;rintro e w' ⟨rfl,hw⟩;rw[<-hwa] at hw;have HW:Hid _:=hw;clear hw)
    go_ret
    refine ⟨lD (lD HA.out.2.1 (Fr.of_below HW.out _)) (Fr.of_below (aC _ _) _),.inr ⟨E,m,_,HRE.out,rfl,bE _ _,?_⟩⟩
    exact Nat.le_trans HA.out.2.1.size HW.out.size
  ·obtain rfl:k=N:=by omega
   rw[show l.drop k=[] by rw[hn.out];exact List.drop_length,fV] at hst
   obtain ⟨g,hg,hS⟩:=(hmem.out wr hFr).sts hn.out hN.out
   have hcall:=pR (cap:=cap) hn hNm hg hS
   obtain ⟨E,hE⟩:∃E,Hid (cN l=E):=⟨_,rfl⟩
   rw[hE.out] at hcall
   have HR:Hid (oI vs R l n=if E≠0 then .error (E,n) else .ok m):=by unfold Hid oI;rw[hst,hE.out]
   have HA:Hid (_/\_):=⟨hC,hFr⟩
   clear hC hFr hst hsum hp2 hm2 hg hS
   by_cases hE0:E=0
   ·subst hE0
    rw[if_neg (by simp)] at HR
    rw[show ((0:Nat):Int)=0 from rfl] at hcall
    go_wp2_with (refine hcall.mono ?_;rintro e w' ⟨rfl,hw⟩)
    go_ret
    exact ⟨lD HA.out.2 (Fr.of_below hw _),.inl ⟨m,HR.out,rfl,HA.out.1.below hw⟩⟩
   ·rw[if_pos hE0] at HR
    have h1:¬(E:Int)=0:=by omega
    have h2:((E:Int)==0)=false:=by simp;omega
    go_wp2_with (refine hcall.mono ?_;rintro e w' ⟨rfl,hw⟩;have HW:Hid _:=hw;clear hw)
    go_ret
    refine ⟨lD (lD HA.out.2 (Fr.of_below HW.out _)) (Fr.of_below (aC _ _) _),.inr ⟨E,n,_,HR.out,rfl,bE _ _,?_⟩⟩
    exact Nat.le_trans HA.out.2.size HW.out.size
end
end
section
open Go.RowKit Px
section
variable {ρ:Type}{ck pb mb nm gv:Nat}{adv:Option Addr}{capv:Nat}{vs:List bJ}
theorem Nb {R:List ρ->Nat->B6}{l:List (List ρ)}{k m:Nat}{r:List ρ}(h:l[k]?=some r):gK R (l.drop k) m=match R r m with
    | .error x=>.error x
    | .ok m'=>gK R (l.drop (k+1)) m':=by rw[zY h,gK];cases R r m<;>rfl
theorem Bw {w:World}{n:Nat}(h:jV w ck pb mb nm gv adv capv vs n) {ad:Option Addr}{N cap:Nat}{l:List (List ρ)}{R:List ρ->Nat->B6}{I:World->List ρ->Value->Prop}(cr:List ρ->Nat) (hn:Hid (N=l.length)) (hNm:N≤maxLen)
    (hmem:Hid (∀w',Fr w.heap.size [ck] w w'->∃g,(0<N->ad=some ⟨g,0,none⟩)/\∀(i:Nat) (r:List ρ),l[i]?=some r->∃a b c,w'.cell? ⟨g,i,none⟩=some (.slice a b c)/\I w' r (.slice a b c)))
    (hcs:Hid (∀r∈l,∀n m,R r n=.ok m->m=n+cr r)) (hbd:Hid (n+gU cr l≤1000000))
    (hin:Hid (∀w' r v m,r∈l->Fr w.heap.size [ck] w w'->I w' r v->jV w' ck pb mb nm gv adv capv vs m->m+cr r≤1000000->Calls Tryz.prog 144 #[.pointer (some ⟨ck,0,none⟩),v] w' (rK ck pb mb nm gv adv capv vs (R r m) w'))) :
    Calls Tryz.prog 93 #[.pointer (some ⟨ck,0,none⟩),.slice ad N cap] w (rK ck pb mb nm gv adv capv vs (gK R l n) w):=by
 have hN6:(N:Int)≤9223372036854775807:=by unfold maxLen at hNm;omega
 have HC:Hid _:=h
 clear h hNm
 go_enter Tryz.func93,Tryz.ntmps93
 go_wp2_with fail
 go_loopg [10] N (fun f i wr=>∃k:Nat,f=N-k/\k≤N/\i=.int .i64 (k:Int)/\Hid (∃m,jV wr ck pb mb nm gv adv capv vs m/\Fr w.heap.size [ck] w wr/\gK R l n=gK R (l.drop k) m/\m+gU cr (l.drop k)≤1000000))
 case atStart=>exact ⟨0,by omega,by omega,rfl,n,HC.out,Fr.refl _ _ _,rfl,hbd.out⟩
 case round=>
  obtain ⟨k,rfl,hk,rfl,hr⟩:=hrel
  obtain ⟨m,hC,hFr,hst,hsum⟩:=hr.out
  clear hr
  by_cases hlt:k<N
  ·obtain ⟨r,hs⟩:∃r,l[k]?=some r:=⟨l[k]'(by rw[<-hn.out];exact hlt),by rw[List.getElem?_eq_getElem]⟩
   have hsm:=List.mem_of_getElem? hs
   rw[zG _ hs] at hsum
   rw[Nb hs] at hst
   obtain ⟨g,hg,hg2⟩:=hmem.out wr hFr
   obtain ⟨va,vb,vc,cr',hI⟩:=hg2 k r hs
   have hcall:=hin.out wr r _ m hsm hFr hI hC (by omega)
   have hix:=ixR ad g N cap k hlt hg
   have HR:Hid _:=hst
   have HF:Hid _:=hFr
   have HSU:Hid _:=hsum
   have hcsr:=hcs.out r hsm m
   clear hC hFr hst hsum hs hsm hg hg2 hI
   cases hrs:R r m with
   | error x=>
    obtain ⟨c,pl⟩:=x
    rw[hrs] at HR hcall
    have hI2:Calls Tryz.prog 144 #[.pointer (some ⟨ck,0,none⟩),.slice va vb vc] wr fun e w''=>∃g,e=.returned (.iface 115 (.pointer (some ⟨g,0,none⟩)))/\Hid (w''.heap[g]?=some (.cells #[.int .i64 ((c:Nat):Int),.int .i64 ((pl:Nat):Int)] 117 (0,0))/\wr.heap.size≤g/\Fr wr.heap.size [ck] wr w''):=hcall.mono fun e w'' ⟨hF,ho⟩=>by
     rcases ho with ⟨_,he,_⟩|⟨c',p',g',he,h1,h2,h3⟩
     ·simp at he
     ·injection he with he
      injection he with e1 e2
      subst e1;subst e2
      exact ⟨g',h1,h2,h3,hF⟩
    clear hcall
    go_wp2_with (refine hI2.mono ?_;rintro e w'' ⟨ge,rfl,hge⟩)
    go_ret
    refine ⟨lD HF.out hge.out.2.2,.inr ⟨c,pl,ge,HR.out,rfl,hge.out.1,Nat.le_trans HF.out.size hge.out.2.1⟩⟩
   | ok m2=>
    rw[hrs] at HR hcall
    have hm2:=hcsr m2 hrs
    have hI2:Calls Tryz.prog 144 #[.pointer (some ⟨ck,0,none⟩),.slice va vb vc] wr fun e w''=>e=.returned .nilIface/\Hid (jV w'' ck pb mb nm gv adv capv vs m2/\Fr wr.heap.size [ck] wr w''):=hcall.mono fun e w'' ⟨hF,ho⟩=>by
     rcases ho with ⟨m',he,h1,h2⟩|⟨_,_,_,he,_⟩
     ·injection he with he
      subst he
      exact ⟨h1,h2,hF⟩
     ·simp at he
    clear hcall
    go_wp2_with (refine hI2.mono ?_;rintro e w'' ⟨rfl,hge⟩)
    go_roundg (N-(k+1))
    case measure=>omega
    case rel=>exact ⟨k+1,rfl,by omega,by go_num,m2,hge.out.1,lD HF.out hge.out.2,HR.out,by have:=HSU.out;omega⟩
  ·obtain rfl:k=N:=by omega
   rw[show l.drop k=[] by rw[hn.out];exact List.drop_length,gK] at hst
   have HA:Hid (_/\_/\_):=⟨hC,hFr,hst⟩
   clear hC hFr hst hsum
   go_wp2_with fail
   go_ret
   exact ⟨HA.out.2.1,.inl ⟨m,HA.out.2.2,rfl,HA.out.1⟩⟩
end
def Aw:(k:Nat)->St k->Nat
 | 0=>fun _=>0
 | k+1=>fun s=>gU (gU fun x=>1+Aw k x) (cC.regions s)
def K8 (k:Nat) (r:List (St k)):Nat:=gU (fun x=>1+Aw k x) r
def Es:(k:Nat)->St k->Prop
 | 0=>fun _=>True
 | k+1=>fun s=>B7 s/\∀r∈cC.regions s,∀x∈r,Es k x
section
variable {ck pb mb nm gv:Nat}{adv:Option Addr}{capv:Nat}{vs:List bJ}
theorem uQ {ρ:Type}{R:List ρ->Nat->B6}{cr:List ρ->Nat}:∀{l:List (List ρ)}{n m:Nat},(∀r∈l,∀n m,R r n=.ok m->m=n+cr r)->gK R l n=.ok m->m=n+gU cr l:=by
 intro l
 induction l with
 | nil=>intro n m _ h;rw[gK] at h;injection h with h;rw[gU];omega
 | cons r rs ih=>
  intro n m hR h
  rw[gK] at h
  split at h
  ·exact absurd h (by simp)
  ·rename_i m' hr
   have h1:=hR r (by simp) _ _ hr
   have h2:=ih (fun r' hr'=>hR r' (by simp[hr'])) h
   rw[gU];omega
theorem yO {ρ:Type}{R:List ρ->Nat->B6}{cs:cC ρ->Nat}{ns:List bB}:∀{l:List (cC ρ)}{i n m:Nat},(∀s∈l,∀n m,gK R s.regions n=.ok m->m=n+cs s)->fV vs R ns l i n=.ok m->m=n+gU (fun s=>1+cs s) l:=by
 intro l
 induction l with
 | nil=>intro i n m _ h;rw[fV] at h;injection h with h;rw[gU];omega
 | cons s r ih=>
  intro i n m hR h
  rw[fV] at h
  split at h
  ·exact absurd h (by simp)
  ·split at h
   ·exact absurd h (by simp)
   ·rename_i m' hr
    have h1:=hR s (by simp) _ _ hr
    have h2:=ih (fun s' hs'=>hR s' (by simp[hs'])) h
    rw[gU];omega
theorem xA:∀(k:Nat) (r:List (St k)) (n m:Nat),mN vs k r n=.ok m->m=n+K8 k r:=by
 intro k
 induction k with
 | zero=>intro r n m h;rw[mN] at h;exact absurd h (by simp)
 | succ k ih=>
  intro r n m h
  have h':oI vs (mN vs k) r n=.ok m:=h
  unfold oI at h'
  split at h'
  ·exact absurd h' (by simp)
  ·rename_i m' hs
   split at h'
   ·exact absurd h' (by simp)
   ·injection h' with h'
    subst h'
    exact yO (cs:=fun s=>gU (gU fun x=>1+Aw k x) s.regions) (fun s _ n m hr=>uQ (fun r _ n m h=>ih r n m h) hr) hs
def Gt (ck pb mb nm gv:Nat) (adv:Option Addr) (capv:Nat) (vs:List bJ) (A:Nat->Prop) (k:Nat):Prop:=∀(w:World) (l:List (St k)) (v:Value) (n:Nat),jV w ck pb mb nm gv adv capv vs n->aL A w k l v->(∀x∈l,Es k x)->n+K8 k l≤1000000->
 Calls Tryz.prog 144 #[.pointer (some ⟨ck,0,none⟩),v] w (rK ck pb mb nm gv adv capv vs (mN vs k l n) w)
def Ws (ck pb mb nm gv:Nat) (adv:Option Addr) (capv:Nat) (vs:List bJ) (A:Nat->Prop) (k:Nat):Prop:=∀(w:World) (l:List (List (St k))) (v:Value) (n:Nat),jV w ck pb mb nm gv adv capv vs n->gI A w (aL A w k) l v->(∀r∈l,∀x∈r,Es k x)->n+gU (K8 k) l≤1000000->
 Calls Tryz.prog 93 #[.pointer (some ⟨ck,0,none⟩),v] w (rK ck pb mb nm gv adv capv vs (gK (mN vs k) l n) w)
theorem aL.csl {A:Nat->Prop}{w:World}{k:Nat}{l:List (St k)}{v:Value}(h:aL A w k l v):∃a b c,v=.slice a b c:=by
 cases k with
 | zero=>exact ⟨_,_,_,h.2⟩
 | succ k=>obtain ⟨ad,g,cap,h1,_⟩:=aL.open h;exact ⟨_,_,_,h1⟩
theorem wK {α:Type}(f:α->Nat) {l:List α}{a:α}(h:a∈l):f a≤gU f l:=by
 induction l with
 | nil=>simp at h
 | cons b r ih=>
  rw[gU]
  rcases List.mem_cons.1 h with rfl|h
  ·omega
  ·have:=ih h;omega
theorem wL {α:Type}(f:α->Nat) (l:List α):l.length≤gU (fun x=>1+f x) l:=by
 induction l with
 | nil=>simp
 | cons b r ih=>rw[gU,List.length_cons];omega
theorem A5 {A:Nat->Prop}(hA:∀x,A x->x≠ck) {k:Nat}(hR:Gt ck pb mb nm gv adv capv vs A k):Ws ck pb mb nm gv adv capv vs A k:=by
 intro w l v n hC hI hN hb
 obtain ⟨ad,g,cap,rfl,h1,h2,h3⟩:=hI.len
 refine Bw hC (I:=fun w'=>aL A w' k) (K8 k) rfl h1 (fun w' hF=>?_) (fun r _ n m h=>xA k r n m h) hb (fun w' r v m hr hF hv hC' hm=>hR w' r v m hC' hv (hN r hr) hm)
 have hK:aX A A w w':=hF.keep fun x hx=>by simpa using hA x hx
 have hI':=hI.carry hK (aL.carry hK k)
 obtain ⟨ad',g',cap',e,_,q2,q3⟩:=hI'.len
 injection e with e1 e2 e3
 subst e1
 refine ⟨g',fun hp=>(q2 hp).1,fun i r hi=>?_⟩
 obtain ⟨u,hu,hIu⟩:=q3 i r hi
 obtain ⟨a,b,c,rfl⟩:=hIu.csl
 exact ⟨a,b,c,hu,hIu⟩
theorem Tz {A:Nat->Prop}(hA:∀x,A x->x≠ck):∀k,Gt ck pb mb nm gv adv capv vs A k:=by
 intro k
 induction k with
 | zero=>
  intro w l v n hC hI _ hb
  obtain ⟨rfl,rfl⟩:=hI
  have:=zN (ρ:=Unit) (cap:=0) (ad:=none) (l:=[]) (N:=0) (R:=fun _ n=>.ok n) (A:=fun _=>True) (Q:=fun _ _ _=>True) hC (fun _=>0) rfl (fun w' _=>⟨0,fun h=>absurd h (by omega),fun i s h=>absurd h (by simp)⟩) (fun s h=>absurd h (by simp)) (fun s h=>absurd h (by simp)) (by rw[Hid,gU];have:n+K8 0 ([]:List (St 0))≤1000000:=hb;omega) (by omega) (fun _ s _ _ h=>absurd h (by simp))
  exact this
 | succ k ih=>
  intro w l v n hC hI hN hb
  obtain ⟨ad,g,cap,rfl,h1,h2,h3⟩:=aL.open hI
  have hl:List.length l≤1000000:=by
   have:=wL (fun x=>Aw (k+1) x) l
   have hb':n+gU (fun x=>1+Aw (k+1) x) l≤1000000:=hb
   omega
  refine zN (ρ:=St k) (A:=A) (R:=mN vs k) (Q:=fun w' s v=>gI A w' (aL A w' k) s.regions v) hC (fun s=>Aw (k+1) s) rfl (fun w' hF=>?_) (fun s hs=>(hN s hs).1) (fun s _ n m h=>uQ (fun r _ n m h=>xA k r n m h) h) hb hl (fun w' s v m hs hF hv hC' hm=>A5 hA ih w' s.regions v m hC' hv (hN s hs).2 hm)
  have hK:aX A A w w':=hF.keep fun x hx=>by simpa using hA x hx
  have hI':aL A w' (k+1) l (.slice ad (List.length l) cap):=aL.carry hK (k+1) l _ hI
  obtain ⟨ad',g',cap',e,_,q2,q3⟩:=aL.open hI'
  injection e with e1 e2 e3
  subst e1
  exact ⟨g',fun hp=>q2 hp,q3⟩
end
end
end Go.Proofs.YtcdbhoknhnimcaaGreatDoor
namespace Go.Proofs
open Go.Shelf
def Tryz.laysC174_ren:Go.Shelf.Ren:=⟨fun|174=>222|247=>249|245=>250|287=>264|279=>265|280=>266|281=>267|282=>268|321=>273|322=>274|316=>188|171=>276|205=>275|243=>280|246=>282|283=>283|284=>284|285=>285|286=>286|129=>176|317=>287|318=>288|319=>289|320=>290|337=>291|338=>292|n=>n,fun|9=>9|3=>3|2=>2|75=>33|85=>292|4=>4|167=>338|5=>5|53=>148|175=>339|46=>108|168=>341|37=>99|0=>0|210=>350|21=>21|127=>291|145=>354|143=>352|171=>361|173=>363|212=>366|51=>241|20=>20|213=>367|232=>368|233=>369|80=>206|n=>n,fun|15=>4|16=>5|17=>8|18=>9|19=>10|n=>n⟩
theorem Tryz.laysC174:Go.Proofs.LaysC.n174 Tryz.prog Tryz.laysC174_ren:={
 mixed:=by kernel_rfl
 f129:=Tryz.func176.trans (congrArg some (by kernel_rfl))
 f171:=Tryz.func276.trans (congrArg some (by kernel_rfl))
 f174:=Tryz.func222.trans (congrArg some (by kernel_rfl))
 f205:=Tryz.func275.trans (congrArg some (by kernel_rfl))
 f243:=Tryz.func280.trans (congrArg some (by kernel_rfl))
 f245:=Tryz.func250.trans (congrArg some (by kernel_rfl))
 f246:=Tryz.func282.trans (congrArg some (by kernel_rfl))
 f247:=Tryz.func249.trans (congrArg some (by kernel_rfl))
 f279:=Tryz.func265.trans (congrArg some (by kernel_rfl))
 f280:=Tryz.func266.trans (congrArg some (by kernel_rfl))
 f281:=Tryz.func267.trans (congrArg some (by kernel_rfl))
 f282:=Tryz.func268.trans (congrArg some (by kernel_rfl))
 f283:=Tryz.func283.trans (congrArg some (by kernel_rfl))
 f284:=Tryz.func284.trans (congrArg some (by kernel_rfl))
 f285:=Tryz.func285.trans (congrArg some (by kernel_rfl))
 f286:=Tryz.func286.trans (congrArg some (by kernel_rfl))
 f287:=Tryz.func264.trans (congrArg some (by kernel_rfl))
 f316:=Tryz.func188.trans (congrArg some (by kernel_rfl))
 f317:=Tryz.func287.trans (congrArg some (by kernel_rfl))
 f318:=Tryz.func288.trans (congrArg some (by kernel_rfl))
 f319:=Tryz.func289.trans (congrArg some (by kernel_rfl))
 f320:=Tryz.func290.trans (congrArg some (by kernel_rfl))
 f321:=Tryz.func273.trans (congrArg some (by kernel_rfl))
 f322:=Tryz.func274.trans (congrArg some (by kernel_rfl))
 f337:=Tryz.func291.trans (congrArg some (by kernel_rfl))
 f338:=Tryz.func292.trans (congrArg some (by kernel_rfl))
 t0:=Tryz.underlying0
 a0:=Tryz.isAgg0
 z0:=Tryz.sizeOf0
 v0:=Tryz.zeroValue0
 t2:=Tryz.underlying2
 a2:=Tryz.isAgg2
 z2:=Tryz.sizeOf2
 v2:=Tryz.zeroValue2
 t3:=Tryz.underlying3
 a3:=Tryz.isAgg3
 z3:=Tryz.sizeOf3
 v3:=Tryz.zeroValue3
 t4:=Tryz.underlying4
 a4:=Tryz.isAgg4
 z4:=Tryz.sizeOf4
 v4:=Tryz.zeroValue4
 t5:=Tryz.underlying5
 a5:=Tryz.isAgg5
 z5:=Tryz.sizeOf5
 v5:=Tryz.zeroValue5
 t9:=Tryz.underlying9
 a9:=Tryz.isAgg9
 z9:=Tryz.sizeOf9
 v9:=Tryz.zeroValue9
 t20:=Tryz.underlying20
 a20:=Tryz.isAgg20
 z20:=Tryz.sizeOf20
 v20:=Tryz.zeroValue20
 t21:=Tryz.underlying21
 a21:=Tryz.isAgg21
 z21:=Tryz.sizeOf21
 v21:=Tryz.zeroValue21
 t37:=Tryz.underlying99
 a37:=Tryz.isAgg99
 z37:=Tryz.sizeOf99
 v37:=Tryz.zeroValue99
 t46:=Tryz.underlying108
 a46:=Tryz.isAgg108
 z46:=Tryz.sizeOf108
 v46:=Tryz.zeroValue108
 t51:=Tryz.underlying241
 a51:=Tryz.isAgg241
 z51:=Tryz.sizeOf241
 v51:=Tryz.zeroValue241
 t53:=Tryz.underlying148
 a53:=Tryz.isAgg148
 z53:=Tryz.sizeOf148
 v53:=Tryz.zeroValue148
 t75:=Tryz.underlying33
 a75:=Tryz.isAgg33
 z75:=Tryz.sizeOf33
 v75:=Tryz.zeroValue33
 t85:=Tryz.underlying292
 a85:=Tryz.isAgg292
 z85:=Tryz.sizeOf292
 v85:=Tryz.zeroValue292
 t127:=Tryz.underlying291
 a127:=Tryz.isAgg291
 z127:=Tryz.sizeOf291
 v127:=Tryz.zeroValue291
 t143:=Tryz.underlying352
 a143:=Tryz.isAgg352
 z143:=Tryz.sizeOf352
 v143:=Tryz.zeroValue352
 t145:=Tryz.underlying354
 a145:=Tryz.isAgg354
 z145:=Tryz.sizeOf354
 v145:=Tryz.zeroValue354
 t167:=Tryz.underlying338
 a167:=Tryz.isAgg338
 z167:=Tryz.sizeOf338
 v167:=Tryz.zeroValue338
 t168:=Tryz.underlying341
 a168:=Tryz.isAgg341
 z168:=Tryz.sizeOf341
 v168:=Tryz.zeroValue341
 t171:=Tryz.underlying361
 a171:=Tryz.isAgg361
 z171:=Tryz.sizeOf361
 v171:=Tryz.zeroValue361
 t173:=Tryz.underlying363
 a173:=Tryz.isAgg363
 z173:=Tryz.sizeOf363
 v173:=Tryz.zeroValue363
 t175:=Tryz.underlying339
 a175:=Tryz.isAgg339
 z175:=Tryz.sizeOf339
 v175:=Tryz.zeroValue339
 t210:=Tryz.underlying350
 a210:=Tryz.isAgg350
 z210:=Tryz.sizeOf350
 v210:=Tryz.zeroValue350
 t212:=Tryz.underlying366
 a212:=Tryz.isAgg366
 z212:=Tryz.sizeOf366
 v212:=Tryz.zeroValue366
 t213:=Tryz.underlying367
 a213:=Tryz.isAgg367
 z213:=Tryz.sizeOf367
 t232:=Tryz.underlying368
 a232:=Tryz.isAgg368
 z232:=Tryz.sizeOf368
 v232:=Tryz.zeroValue368
 t233:=Tryz.underlying369
 a233:=Tryz.isAgg369
 z233:=Tryz.sizeOf369
 v233:=Tryz.zeroValue369
 g15:=by kernel_rfl
 g16:=by kernel_rfl
 g17:=by kernel_rfl
 g18:=by kernel_rfl
 g19:=by kernel_rfl
 t80:=Tryz.underlying206
 a80:=Tryz.isAgg206
 z80:=Tryz.sizeOf206
 v80:=Tryz.zeroValue206
 i0:=by kernel_rfl
 i2:=by kernel_rfl
 i3:=by kernel_rfl
 i4:=by kernel_rfl
 i5:=by kernel_rfl
 i9:=by kernel_rfl
 i20:=by kernel_rfl
 i21:=by kernel_rfl
 i37:=by kernel_rfl
 i46:=by kernel_rfl
 i51:=by kernel_rfl
 i53:=by kernel_rfl
 i75:=by kernel_rfl
 i80:=by kernel_rfl
 i85:=by kernel_rfl
 i127:=by kernel_rfl
 i143:=by kernel_rfl
 i145:=by kernel_rfl
 i167:=by kernel_rfl
 i168:=by kernel_rfl
 i171:=by kernel_rfl
 i173:=by kernel_rfl
 i175:=by kernel_rfl
 i210:=by kernel_rfl
 i212:=by kernel_rfl
 i232:=by kernel_rfl
 i233:=by kernel_rfl
 m15:=by kernel_rfl
 m16:=by kernel_rfl
 m17:=by kernel_rfl
 m18:=by kernel_rfl
 m19:=by kernel_rfl
 c0:=by kernel_rfl
 c2:=by kernel_rfl
 c3:=by kernel_rfl
 c4:=by kernel_rfl
 c5:=by kernel_rfl
 c9:=by kernel_rfl
 c20:=by kernel_rfl
 c21:=by kernel_rfl
 c37:=by kernel_rfl
 c46:=by kernel_rfl
 c51:=by kernel_rfl
 c53:=by kernel_rfl
 c75:=by kernel_rfl
 c80:=by kernel_rfl
 c85:=by kernel_rfl
 c127:=by kernel_rfl
 c143:=by kernel_rfl
 c145:=by kernel_rfl
 c167:=by kernel_rfl
 c168:=by kernel_rfl
 c171:=by kernel_rfl
 c173:=by kernel_rfl
 c175:=by kernel_rfl
 c210:=by kernel_rfl
 c212:=by kernel_rfl
 c213:=by kernel_rfl
 c232:=by kernel_rfl
 c233:=by kernel_rfl }
open Go.RowKit in
theorem Tryz.strconv_ParseInt_10_at64_ok (s:ByteArray) (hmax:s.size≤9223372036854775806) (v:Int) (h:Lib.parseIntB 64 s.data.toList=.ok v) (w:World) :
    Calls Tryz.prog 222 #[.string s,.int .i64 10,.int .i64 64] w fun e w'=>e=.returned (.tuple #[.int .i64 v,.nilIface])/\(w'=w\/∃t,w'=Lib.bytesWorld w 5 t):=Any.strconv_ParseInt_10_at64_ok Tryz.laysC174 s hmax v h w
end Go.Proofs
namespace Go.Proofs.YtcdbhoknhnimcaaGreatDoor
section
open Go.RowKit
theorem O5 (c:UInt8) (n:Nat) (hn:n<256):(c==UInt8.ofNat n)=decide ((c.toNat:Int)=(n:Int)):=by
 rw[Bool.eq_iff_iff]
 simp only[beq_iff_eq,decide_eq_true_eq]
 constructor
 ·rintro rfl;simp;omega
 ·intro h;apply UInt8.toNat_inj.1;simp;omega
theorem mK {a b:Bool}(h:a=b):Ending.returned (.bool a)=.returned (.bool b):=by rw[h]
theorem pE (c:UInt8) (w:World) :
    Calls Tryz.prog 182 #[.int .u8 c.toNat] w fun e w'=>e=.returned (.bool (Lx.sN c))/\w'=w:=by
 have hb:Lx.sN c=(decide ((c.toNat:Int)=32)||decide ((c.toNat:Int)=9)||decide ((c.toNat:Int)=10)):=by
  have h1:(c==32)=decide ((c.toNat:Int)=32):=O5 c 32 (by decide)
  have h2:(c==9)=decide ((c.toNat:Int)=9):=O5 c 9 (by decide)
  have h3:(c==10)=decide ((c.toNat:Int)=10):=O5 c 10 (by decide)
  unfold Lx.sN;rw[h1,h2,h3]
 have H:Hid _:=hb
 clear hb
 go_enter Tryz.func182,Tryz.ntmps182
 go_wp2
 all_goals go_ret
 all_goals (refine ⟨mK ?_,rfl⟩;rw[H.out,Bool.eq_iff_iff];simp<;>omega)
theorem xR (c:UInt8) (w:World) :
    Calls Tryz.prog 184 #[.int .u8 c.toNat] w fun e w'=>e=.returned (.bool (Lx.inl c))/\w'=w:=by
 have H:Hid (Lx.inl c=!decide ((c.toNat:Int)=10)):=by
  have h3:(c==10)=decide ((c.toNat:Int)=10):=O5 c 10 (by decide)
  show _=_;unfold Lx.inl bne;rw[h3]
 go_enter Tryz.func184,Tryz.ntmps184
 go_wp2
 all_goals go_ret
 all_goals (refine ⟨mK ?_,rfl⟩;rw[H.out,Bool.eq_iff_iff];simp<;>omega)
theorem jF (c:UInt8) (w:World) :
    Calls Tryz.prog 185 #[.int .u8 c.toNat] w fun e w'=>e=.returned (.bool (Lx.gQ c))/\w'=w:=by
 have H:Hid (Lx.gQ c=(decide (48≤(c.toNat:Int))&&decide ((c.toNat:Int)≤57))):=by
  show _=_;unfold Lx.gQ;congr 1<;>(rw[decide_eq_decide];omega)
 go_enter Tryz.func185,Tryz.ntmps185
 go_wp2
 all_goals go_ret
 all_goals (refine ⟨mK ?_,rfl⟩;rw[H.out,Bool.eq_iff_iff];simp<;>omega)
theorem Lf (c:UInt8):Lx.Ao c=((decide (97≤(c.toNat:Int))&&decide ((c.toNat:Int)≤122))||(decide (65≤(c.toNat:Int))&&decide ((c.toNat:Int)≤90))||decide ((c.toNat:Int)=95)):=by
 have h3:(c==95)=decide ((c.toNat:Int)=95):=O5 c 95 (by decide)
 unfold Lx.Ao;rw[h3]
 have a:decide (97≤c.toNat)=decide (97≤(c.toNat:Int)):=by rw[decide_eq_decide];omega
 have b:decide (c.toNat≤122)=decide ((c.toNat:Int)≤122):=by rw[decide_eq_decide];omega
 have d:decide (65≤c.toNat)=decide (65≤(c.toNat:Int)):=by rw[decide_eq_decide];omega
 have e:decide (c.toNat≤90)=decide ((c.toNat:Int)≤90):=by rw[decide_eq_decide];omega
 rw[a,b,d,e]
theorem nL (c:UInt8) (w:World) :
    Calls Tryz.prog 186 #[.int .u8 c.toNat] w fun e w'=>e=.returned (.bool (Lx.oK c))/\w'=w:=by
 have H:Hid _:=Lf c
 have H2:Hid (Lx.oK c=(Lx.Ao c||Lx.gQ c)):=rfl
 go_enter Tryz.func186,Tryz.ntmps186
 go_wp2_with (go_at_call 185;refine (jF _ _).mono ?_;rintro e w' ⟨rfl,rfl⟩)
 all_goals go_ret
 all_goals (refine ⟨mK ?_,rfl⟩;rw[H2.out,H.out,Bool.eq_iff_iff];generalize Lx.gQ c=d;cases d<;>simp<;>omega)
end
end Go.Proofs.YtcdbhoknhnimcaaGreatDoor
