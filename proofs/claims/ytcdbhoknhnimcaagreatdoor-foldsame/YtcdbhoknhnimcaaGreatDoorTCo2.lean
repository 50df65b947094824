import Derived.Test.YtcdbhoknhnimcaaGreatDoorTCe2
import Derived.ArgAppend
set_option maxRecDepth 100000
set_option maxHeartbeats 8000000
namespace Go.Proofs.YtcdbhoknhnimcaaGreatDoor
section
open Go.RowKit Px
section
variable {A:Nat->Prop}{fb kb ck pb mb nm:Nat}{ns:List bB}
theorem Rs (hA:∀x,A x->x≠fb) {w w':World}(hF:Fr w.heap.size [fb] w w') {e:E}{v:Value}(h:jI A w e v):jI A w' e v:=
 h.carry (hF.keep fun x hx=>by simpa using hA x hx)
theorem lD {X:List Nat}{W wr w':World}(h:Fr W.heap.size X W wr) (k:Fr wr.heap.size X wr w'):Fr W.heap.size X W w':=h.trans (k.mono h.size (fun _ hx _=>hx))
theorem kP {w w':World}(hF:Fr w.heap.size [fb] w w') {x:Nat}(hx:x≠fb) {o:Nat}{v:Value}(hc:w.cell? ⟨x,o,none⟩=some v):w'.cell? ⟨x,o,none⟩=some v:=by
 rw[hF.cell (p:=⟨x,o,none⟩) (World.block_lt_of_cell? w _ hc) (by simpa using hx)];exact hc
theorem Qx (hA:∀x,A x->x≠fb) (w:World) (b:Bool) {g:Nat}{c n:Int}(hc:c=4\/c=5) {S:Value}{l:E}{lv rv:Value}(hgA:A g) (hg:w.heap[g]?=some (.cells #[.int .i64 c,.int .i64 n,S,lv,rv] 335 (0,0))) (hl:jI A w l lv) (ih:Wz A fb kb ck pb mb nm ns l) (h:gG w fb kb ck pb mb nm ns b):Calls Tryz.prog 256 #[.pointer (some ⟨g,0,none⟩),.agg #[lookV fb kb,lookV fb kb]] w (kJ fb kb ck pb mb nm ns (b||dF ns l) w):=by
 obtain ⟨O,hO⟩:∃O,O=Obj.cells #[lookV fb kb,lookV fb kb] 329:=⟨_,rfl⟩
 have hbO:=aC w O
 have hbD:=hbO.drew
 have hcall:=ih (w.alloc O).drew lv b (hl.carry fun x hx hlt=>⟨hx,hbD.block x hlt⟩) (h.below hbD)
 have hlf:=aB h.found
 obtain ⟨p,rfl⟩:∃p,lv=.pointer p:=by
  cases l with
  | nil=>exact ⟨none,hl⟩
  | node _ _ _ _ _=>obtain ⟨g',_,_,e,_⟩:=hl;exact ⟨_,e⟩
 have k0:(w.alloc O).heap[w.heap.size]?=some (.cells #[lookV fb kb,lookV fb kb] 329 (0,0)):=by rw[bE,hO]
 have e0:=aA k0 0 (u:=lookV fb kb) rfl
 have e1:=aA k0 1 (u:=lookV fb kb) rfl
 have c0:=aA (dW (o':=O) hg) 0 (u:=.int .i64 c) rfl
 have c3:=aA (dW (o':=O) hg) 3 (u:=.pointer p) rfl
 have HP:Hid (∀w',Fr (w.alloc O).drew.heap.size [fb] (w.alloc O).drew w'->w'.cell? ⟨g,0,none⟩=some (.int .i64 c)/\w'.cell? ⟨g,3,none⟩=some (.pointer p)/\w'.cell? ⟨w.heap.size,0,none⟩=some (lookV fb kb)/\w'.cell? ⟨w.heap.size,1,none⟩=some (lookV fb kb)):=fun w' hF=>
  ⟨kP hF (hA g hgA) c0,kP hF (hA g hgA) c3,kP hF (by omega) e0,kP hF (by omega) e1⟩
 obtain ⟨b',hb'⟩:∃b',b'=(b||dF ns l):=⟨_,rfl⟩
 rw[<-hb'] at hcall ⊢
 have HB:Hid _:=hbD
 have hone:=E9
 unfold lookV at hO hcall e0 e1 HP ⊢
 unfold kJ at hcall
 rw[hO] at hcall e0 e1 c0 c3 HB HP
 clear h hg hb' hbO hbD k0 hO hl ih hlf
 rcases hc with rfl|rfl
 ·go_enter Tryz.func256,Tryz.ntmps256
  go_wp2_with fail
  go_region_held3 (fun w'=>w'.cell? ⟨g,0,none⟩=some (.int .i64 4)/\w'.cell? ⟨g,3,none⟩=some (.pointer p)/\w'.cell? ⟨w.heap.size,0,none⟩=some (.func (.func 255) #[] #[.pointer (some ⟨fb,0,none⟩),.pointer (some ⟨kb,0,none⟩)])/\w'.cell? ⟨w.heap.size,1,none⟩=some (.func (.func 255) #[] #[.pointer (some ⟨fb,0,none⟩),.pointer (some ⟨kb,0,none⟩)])) (first|exact HP.out _ hr.out.1|go_keep)
   (first
    | (go_at_call 256;refine hcall.mono ?_;rintro e w1 ⟨x,rfl,hr⟩)
    | (go_at_call 101;refine (hone _ _ _).mono ?_;rintro e w2 ⟨rfl,rfl⟩))
  all_goals
   go_wp2_with fail
   go_ret
   exact ⟨_,rfl,sJ HB.out hr.out.1,hr.out.2⟩
 ·go_enter Tryz.func256,Tryz.ntmps256
  go_wp2_with fail
  go_region_held3 (fun w'=>w'.cell? ⟨g,0,none⟩=some (.int .i64 5)/\w'.cell? ⟨g,3,none⟩=some (.pointer p)/\w'.cell? ⟨w.heap.size,0,none⟩=some (.func (.func 255) #[] #[.pointer (some ⟨fb,0,none⟩),.pointer (some ⟨kb,0,none⟩)])/\w'.cell? ⟨w.heap.size,1,none⟩=some (.func (.func 255) #[] #[.pointer (some ⟨fb,0,none⟩),.pointer (some ⟨kb,0,none⟩)])) (first|exact HP.out _ hr.out.1|go_keep)
   (first
    | (go_at_call 256;refine hcall.mono ?_;rintro e w1 ⟨x,rfl,hr⟩)
    | (go_at_call 101;refine (hone _ _ _).mono ?_;rintro e w2 ⟨rfl,rfl⟩))
  all_goals
   go_wp2_with fail
   go_ret
   exact ⟨_,rfl,sJ HB.out hr.out.1,hr.out.2⟩
theorem Qw (hA:∀x,A x->x≠fb) (w:World) (b:Bool) {g:Nat}{c n:Int}(hc:c≠1/\c≠2/\c≠3/\c≠4/\c≠5) {S:Value}{l r:E}{lv rv:Value}(hgA:A g) (hg:w.heap[g]?=some (.cells #[.int .i64 c,.int .i64 n,S,lv,rv] 335 (0,0))) (hl:jI A w l lv) (hr:jI A w r rv) (ihl:Wz A fb kb ck pb mb nm ns l) (ihr:Wz A fb kb ck pb mb nm ns r) (h:gG w fb kb ck pb mb nm ns b):Calls Tryz.prog 256 #[.pointer (some ⟨g,0,none⟩),.agg #[lookV fb kb,lookV fb kb]] w (kJ fb kb ck pb mb nm ns (b||(dF ns l||dF ns r)) w):=by
 obtain ⟨O,hO⟩:∃O,O=Obj.cells #[lookV fb kb,lookV fb kb] 329:=⟨_,rfl⟩
 have hbO:=aC w O
 have hbD:=hbO.drew
 have hcall:=ihl (w.alloc O).drew lv b (hl.carry fun x hx hlt=>⟨hx,hbD.block x hlt⟩) (h.below hbD)
 have HR:Hid (jI A (w.alloc O).drew r rv/\_):=⟨hr.carry fun x hx hlt=>⟨hx,hbD.block x hlt⟩,ihr⟩
 have hlf:=aB h.found
 obtain ⟨p,rfl⟩:∃p,lv=.pointer p:=by
  cases l with
  | nil=>exact ⟨none,hl⟩
  | node _ _ _ _ _=>obtain ⟨g',_,_,e,_⟩:=hl;exact ⟨_,e⟩
 obtain ⟨q,rfl⟩:∃q,rv=.pointer q:=by
  cases r with
  | nil=>exact ⟨none,hr⟩
  | node _ _ _ _ _=>obtain ⟨g',_,_,e,_⟩:=hr;exact ⟨_,e⟩
 have k0:(w.alloc O).heap[w.heap.size]?=some (.cells #[lookV fb kb,lookV fb kb] 329 (0,0)):=by rw[bE,hO]
 have e0:=aA k0 0 (u:=lookV fb kb) rfl
 have e1:=aA k0 1 (u:=lookV fb kb) rfl
 have c0:=aA (dW (o':=O) hg) 0 (u:=.int .i64 c) rfl
 have c3:=aA (dW (o':=O) hg) 3 (u:=.pointer p) rfl
 have c4:=aA (dW (o':=O) hg) 4 (u:=.pointer q) rfl
 have HP:Hid (∀w',Fr (w.alloc O).drew.heap.size [fb] (w.alloc O).drew w'->w'.cell? ⟨g,0,none⟩=some (.int .i64 c)/\w'.cell? ⟨g,4,none⟩=some (.pointer q)/\w'.cell? ⟨w.heap.size,0,none⟩=some (lookV fb kb)/\w'.cell? ⟨w.heap.size,1,none⟩=some (lookV fb kb)):=fun w' hF=>
  ⟨kP hF (hA g hgA) c0,kP hF (hA g hgA) c4,kP hF (by omega) e0,kP hF (by omega) e1⟩
 obtain ⟨b1,hb1⟩:∃b1,b1=(b||dF ns l):=⟨_,rfl⟩
 obtain ⟨b2,hb2⟩:∃b2,b2=(b||(dF ns l||dF ns r)):=⟨_,rfl⟩
 have HB2:Hid (b2=(b1||dF ns r)):=by rw[Hid,hb2,hb1,Bool.or_assoc]
 rw[<-hb1] at hcall
 rw[<-hb2]
 have HB:Hid _:=hbD
 have HKA:Hid _:=hA
 obtain ⟨c1',c2',c3',c4',c5'⟩:=hc
 have t1:(c==1)=false:=by simpa using c1'
 have t2:(c==2)=false:=by simpa using c2'
 have t3:(c==3)=false:=by simpa using c3'
 have t4:(c==4)=false:=by simpa using c4'
 have t5:(c==5)=false:=by simpa using c5'
 have htwo:=C5
 unfold kJ at hcall
 unfold lookV at hO hcall e0 e1 HP ⊢
 rw[hO] at hcall e0 e1 c0 c3 HB HP HR
 clear h hg hb1 hb2 hbO hbD k0 hO hl hr ihl ihr hlf c4 hA hgA
 go_enter Tryz.func256,Tryz.ntmps256
 go_upto_region 13 with fail
 clear t1 t2 t3 t4 t5 c1' c2' c3' c4' c5'
 go_cut [5] (fun s5 wx=>∃x,s5=.int .i64 x/\Hid (Fr (w.alloc (.cells #[.func (.func 255) #[] #[.pointer (some ⟨fb,0,none⟩),.pointer (some ⟨kb,0,none⟩)],.func (.func 255) #[] #[.pointer (some ⟨fb,0,none⟩),.pointer (some ⟨kb,0,none⟩)]] 329)).drew.heap.size [fb] (w.alloc (.cells #[.func (.func 255) #[] #[.pointer (some ⟨fb,0,none⟩),.pointer (some ⟨kb,0,none⟩)],.func (.func 255) #[] #[.pointer (some ⟨fb,0,none⟩),.pointer (some ⟨kb,0,none⟩)]] 329)).drew wx/\gG wx fb kb ck pb mb nm ns b1))
 case first=>
  go_region_with (refine hcall.mono ?_;rintro e w' ⟨x,rfl,hr⟩)
  all_goals
   go_wp2_with fail
   go_meet
   case rel=>exact ⟨x,rfl,hr.out⟩
 case rest=>
  obtain ⟨x,rfl,hx⟩:=hcut
  clear hcall e0 e1 c0 c3
  obtain ⟨d0,d4,f0,f1⟩:=HP.out wc hx.out.1
  have hFd:=hx.out.1.drew
  have hcall:=HR.out.2 wc.drew (.pointer q) b1 (Rs HKA.out hFd HR.out.1) (hx.out.2.below ((Below.refl _ _).drew))
  rw[<-HB2.out] at hcall
  unfold kJ at hcall
  unfold lookV at hcall
  have HFD:Hid _:=hFd
  clear hFd
  go_upto_region 14 with fail
  go_cut [6] (fun s6 wx=>∃x,s6=.int .i64 x/\Hid (Fr w.heap.size [fb] w wx/\gG wx fb kb ck pb mb nm ns b2/\wx.cell? ⟨g,0,none⟩=some (.int .i64 c)))
  case first=>
   go_region_with (refine hcall.mono ?_;rintro e w' ⟨y,rfl,hr⟩)
   all_goals
    go_wp2_with fail
    go_meet
    case rel=>
     have hF2:=lD HFD.out hr.out.1
     exact ⟨y,rfl,sJ HB.out hF2,hr.out.2,(HP.out _ hF2).1⟩
  case rest=>
   obtain ⟨y,rfl,hy⟩:=hcut
   have g0:=hy.out.2.2
   clear hcall d0 d4 f0 f1
   go_wp2_with (refine (htwo _ _ _ _).mono ?_;rintro e w' ⟨rfl,rfl⟩)
   go_ret
   exact ⟨_,rfl,hy.out.1.alloc hy.out.1.size _,hy.out.2.1.below (aC _ _)⟩
theorem Ra (hA:∀x,A x->x≠fb):∀e,zB e->Wz A fb kb ck pb mb nm ns e:=by
 intro e
 induction e with
 | nil=>
  intro _ w v b hv h
  obtain rfl:v=.pointer none:=hv
  rw[dF,Bool.or_false]
  exact Qz w b h
 | node b0 o a l r ihl ihr=>
  intro hn w v b hv h
  obtain ⟨n1,n2,n3⟩:=hn
  obtain ⟨g,lv,rv,rfl,hga,hg,hl,hr⟩:=hv
  rw[dF]
  by_cases c1:a.code=1
  ·rw[if_pos c1,Bool.or_false]
   rw[c1] at hg
   exact Qy w b hg h
  ·rw[if_neg c1]
   by_cases c2:a.code=2\/a.code=3
   ·rw[if_pos c2]
    exact Km w b (by omega) n1 hg h
   ·rw[if_neg c2]
    by_cases c4:a.code=4\/a.code=5
    ·rw[if_pos c4]
     exact Qx hA w b (by omega) hga hg hl (ihl n2) h
    ·rw[if_neg c4]
     exact Qw hA w b ⟨by omega,by omega,by omega,by omega,by omega⟩ hga hg hl hr (ihl n2) (ihr n3) h
end
end
section
open Go.RowKit Px
structure jV (w:World) (ck pb mb nm gv:Nat) (adv:Option Addr) (capv:Nat) (vs:List bJ) (n:Nat):Prop where
 box:w.heap[ck]?=some (.cells #[.slice adv vs.length capv,.func (.func 143) #[] #[.pointer (some ⟨pb,0,none⟩)],.int .i64 (n:Int)] 163 (0,0))
 hpb:w.heap[pb]?=some (.cells #[.map (some mb)] 213 (0,0))
 hmb:gY w mb nm (jK (cD vs))
 hv:0<vs.length->adv=some ⟨gv,0,none⟩/\gv<w.heap.size
 hk:∀i d,vs[i]?=some d->w.cell? ⟨gv,i*3,none⟩=some (.int .i64 (d.kind:Int))
 ne:ck≠pb/\ck≠mb/\(0<vs.length->ck≠gv)
section
variable {ck pb mb nm gv:Nat}{adv:Option Addr}{capv:Nat}{vs:List bJ}
theorem jV.below {w w':World}{n:Nat}(h:jV w ck pb mb nm gv adv capv vs n) (hb:Below w.heap.size w w'):jV w' ck pb mb nm gv adv capv vs n:=
 ⟨aH hb h.box,aH hb h.hpb,h.hmb.below hb,fun hp=>⟨(h.hv hp).1,Nat.lt_of_lt_of_le (h.hv hp).2 hb.size⟩,fun i d hi=>aM hb (h.hk i d hi),h.ne⟩
theorem oL {w:World}{n:Nat}(h:jV w ck pb mb nm gv adv capv vs n) {e:E}{v:Value}{A:Nat->Prop}(he:jI A w e v) (hN:zB e) :
    Calls Tryz.prog 227 #[.pointer (some ⟨ck,0,none⟩),v] w fun r w'=>r=.returned (.bool (dF (cD vs) e))/\Below w.heap.size w w':=by
 have hmf:∀(fn:Fn) (first cap:Array Value) (w:World),(Instr.makeFunc fn first cap).run Tryz.prog w=.ok (.func fn first cap) w:=fun _ _ _ _=>rfl
 obtain ⟨p,rfl⟩:∃p,v=.pointer p:=by
  cases e with
  | nil=>exact ⟨none,he⟩
  | node _ _ _ _ _=>obtain ⟨g',_,_,e,_⟩:=he;exact ⟨_,e⟩
 have he':jI (· < w.heap.size) w e (.pointer p):=he.carry fun x _ hlt=>⟨hlt,rfl⟩
 obtain ⟨W,hW⟩:∃W,W=(w.alloc (.cells #[.pointer (some ⟨ck,0,none⟩)] 214)).alloc (.cells #[.bool false] 4):=⟨_,rfl⟩
 have hb1:Below w.heap.size w W:=by rw[hW];exact ((Below.refl _ _).alloc (Nat.le_refl _) _).alloc (by simp) _
 have h1:W.heap[w.heap.size]?=some (.cells #[.pointer (some ⟨ck,0,none⟩)] 214 (0,0)):=by rw[hW];exact dW (bE w _)
 have h2:W.heap[w.heap.size+1]?=some (.cells #[.bool false] 4 (0,0)):=by
  rw[hW]
  have e:w.heap.size+1=(w.alloc (.cells #[.pointer (some ⟨ck,0,none⟩)] 214)).heap.size:=by simp
  rw[e];exact bE _ _
 have l1:=aB h.box
 have l2:=aB h.hpb
 have l3:=h.hmb.lt
 have hL:gG W (w.heap.size+1) w.heap.size ck pb mb nm (cD vs) false:=⟨h2,aA h1 0 rfl,aM hb1 (aA h.box 1 rfl),aH hb1 h.hpb,h.hmb.below hb1,by omega⟩
 have hcall:=Ra (A:=(· < w.heap.size)) (fb:=w.heap.size+1) (kb:=w.heap.size) (fun x hx e=>by have:x<w.heap.size:=hx;omega) e hN W (.pointer p) false (he'.carry fun x hx hlt=>⟨hx,hb1.block x hx⟩) hL
 rw[Bool.false_or] at hcall
 unfold kJ at hcall
 unfold lookV at hcall
 have HB:Hid _:=hb1
 rw[hW] at hcall HB
 clear h he he' hW hb1 h1 h2 l1 l2 l3 hL
 go_enter Tryz.func227,Tryz.ntmps227
 go_wp2_with (refine hcall.mono ?_;rintro e w' ⟨x,rfl,hr⟩;have cf:=aA hr.out.2.found 0 (u:=.bool (dF (cD vs) e)) rfl)
 go_ret
 refine ⟨rfl,HB.out.trans ?_⟩
 exact (hr.out.1.mono HB.out.size (X':=[]) (fun x hx hl=>by simp at hx;omega)).below
end
end
section
open Go.RowKit Px
def lF (l:List iQ):Prop:=∀a∈l,a.name.length≤maxLen/\zB a.e
theorem wP {vs:List bJ}{l:List iQ}(k:Nat) (hz:∀j a,j<k->l[j]?=some a->nD vs a=0):cU vs l=cU vs (l.drop k):=by
 induction k generalizing l with
 | zero=>rfl
 | succ k ih=>
  cases l with
  | nil=>rfl
  | cons a r=>
   rw[cU,if_neg (by simpa using hz 0 a (by omega) rfl),List.drop_succ_cons]
   exact ih fun j a' hj ha=>hz (j+1) a' (by omega) (by simpa using ha)
theorem wQ {vs:List bJ}{l:List iQ}{k:Nat}{a:iQ}(hz:∀j a,j<k->l[j]?=some a->nD vs a=0) (ha:l[k]?=some a) (hne:nD vs a≠0):cU vs l=nD vs a:=by
 rw[wP k hz]
 have:l.drop k=a::l.drop (k+1):=by
  obtain ⟨hk,rfl⟩:=List.getElem?_eq_some_iff.1 ha
  exact List.drop_eq_getElem_cons hk
 rw[this,cU,if_pos hne]
theorem Ic {vs:List bJ}{l:List iQ}(hz:∀j a,j<l.length->l[j]?=some a->nD vs a=0):cU vs l=0:=by
 rw[wP l.length hz,List.drop_length];rfl
theorem Ko {vs:List bJ}{s:bB}{t:Nat}(h:jK (cD vs) s=some t):∃d,vs[t]?=some d/\Md vs s=d.kind:=by
 have ht:=(sK h).1
 rw[cD,List.length_map] at ht
 refine ⟨vs[t],List.getElem?_eq_getElem ht,?_⟩
 unfold Md eB
 rw[h]
 simp[List.getD_eq_getElem?_getD,List.getElem?_eq_getElem ht]
section
variable {ck pb mb nm gv:Nat}{adv:Option Addr}{capv:Nat}{vs:List bJ}
theorem Tw {w:World}{n:Nat}(h:jV w ck pb mb nm gv adv capv vs n) {l:List iQ}{ad:Option Addr}{g N cap:Nat}{A:Nat->Prop}(hN:Hid (N=l.length)) (hm:N≤maxLen) (ha:0<N->ad=some ⟨g,0,none⟩/\g<w.heap.size) (hNm:lF l)
    (R:Hid (∀(i:Nat) (a:iQ),l[i]?=some a->∃p,w.cell? ⟨g,i*2,none⟩=some (sv a.name)/\w.cell? ⟨g,i*2+1,none⟩=some (.pointer p)/\jI A w a.e (.pointer p))) :
    Calls Tryz.prog 226 #[.pointer (some ⟨ck,0,none⟩),.slice ad N cap] w fun r w'=>r=.returned (.int .i64 ((cU vs l:Nat):Int))/\Below w.heap.size w w':=by
 have hN6:(N:Int)≤9223372036854775807:=by unfold maxLen at hm;omega
 have HC:Hid (jV w ck pb mb nm gv adv capv vs n):=h
 have HA:Hid (0<N->ad=some ⟨g,0,none⟩/\g<w.heap.size):=ha
 have HNM:Hid (lF l):=hNm
 clear h ha hNm hm
 go_enter Tryz.func226,Tryz.ntmps226
 go_wp2_with fail
 go_loopg [10] N (fun f i wr=>∃k:Nat,f=N-k/\k≤N/\i=.int .i64 (k:Int)/\Hid (Below w.heap.size w wr/\∀j a,j<k->l[j]?=some a->nD vs a=0))
 case atStart=>exact ⟨0,by omega,by omega,rfl,Below.refl _ _,fun j a hj=>absurd hj (by omega)⟩
 case round=>
  obtain ⟨k,rfl,hk,rfl,hr⟩:=hrel
  by_cases hlt:k<N
  ·obtain ⟨a,hak⟩:∃a,Hid (l[k]?=some a):=⟨l[k]'(by rw[<-hN.out];exact hlt),by rw[Hid,List.getElem?_eq_getElem]⟩
   obtain ⟨p,x0,x1,hp⟩:=R.out k a hak.out
   have hix:=ixS ad g N cap k hlt (fun h=>(HA.out h).1)
   have y0:=aM hr.out.1 x0
   have y1:=aM hr.out.1 x1
   obtain ⟨LO,hLO⟩:∃LO,LO=Obj.cells #[sv a.name,.pointer p] 325:=⟨_,rfl⟩
   have hbL:Below w.heap.size w (wr.alloc LO):=aN hr.out.1 (aC wr LO)
   have hC:=HC.out.below hbL.drew
   have HC2:Hid (jV (wr.alloc LO).drew ck pb mb nm gv adv capv vs n):=hC
   obtain ⟨n1,n2⟩:=HNM.out a (List.mem_of_getElem? hak.out)
   have hf:=mQ (s:=a.name) hC.hpb hC.hmb n1
   have hst:=oL hC (hp.carry fun x hx hlt=>⟨hx,hbL.drew.block x hlt⟩) n2
   have c1:(wr.alloc LO).drew.cell? ⟨ck,1,none⟩=some (.func (.func 143) #[] #[.pointer (some ⟨pb,0,none⟩)]):=aA hC.box 1 rfl
   have HBL:Hid (Below w.heap.size w (wr.alloc LO).drew):=hbL.drew
   have k0:(wr.alloc LO).heap[wr.heap.size]?=some (.cells #[sv a.name,.pointer p] 325 (0,0)):=by rw[bE,hLO]
   have l0:=aA k0 0 (u:=sv a.name) rfl
   have l1:=aA k0 1 (u:=.pointer p) rfl
   obtain ⟨S,hS⟩:∃S,sv a.name=.string S:=⟨_,rfl⟩
   rw[hS] at y0 hf hLO l0
   obtain ⟨b,hb⟩:∃b,Hid (dF (cD vs) a.e=b):=⟨_,rfl⟩
   rw[hb.out] at hst
   have HZ:Hid (∀j a,j<k->l[j]?=some a->nD vs a=0):=hr.out.2
   rw[hLO] at HBL hf hst HC2 c1 l0 l1
   clear hbL hC x0 x1 hp n1 n2 hLO hS hr k0
   obtain ⟨I,hI⟩:∃I,Hid (I=eB (cD vs) a.name):=⟨_,rfl⟩
   rw[<-hI.out] at hf
   go_upto_region 4 with fail
   go_cut [7] (fun s7 wx=>Hid (s7=.int .i64 I/\wx=(wr.alloc (.cells #[.string S,.pointer p] 325)).drew))
   case first=>
    go_region_with (refine hf.mono ?_;rintro e w' ⟨rfl,rfl⟩)
    all_goals
     go_wp2_with fail
     go_meet
     case rel=>exact ⟨rfl,rfl⟩
   case rest=>
    obtain ⟨hs7,hwc⟩:=hcut.out
    subst hs7
    subst hwc
    clear hcut y0 y1 hix hf
    cases hfn:jK (cD vs) a.name with
    | none=>
     have e:I=-1:=by rw[hI.out];unfold eB;rw[hfn]
     subst e
     have HE:Hid (cU vs l=5):=by
      have:nD vs a=5:=by unfold nD;rw[hfn];rfl
      rw[Hid,wQ HZ.out hak.out (by rw[this];simp),this]
     clear hfn hst
     go_wp2_with fail
     go_ret
     exact ⟨by rw[HE.out];rfl,HBL.out⟩
    | some t=>
     have e:I=(t:Int):=by rw[hI.out];unfold eB;rw[hfn]
     subst e
     have hti:¬(t:Int)<0:=by omega
     cases b with
     | true=>
      have HE:Hid (cU vs l=5):=by
       have:nD vs a=5:=by unfold nD;rw[hfn,hb.out];rfl
       rw[Hid,wQ HZ.out hak.out (by rw[this];simp),this]
      clear hfn
      go_wp2_with (refine hst.mono ?_;rintro e w' ⟨rfl,hw⟩)
      go_ret
      exact ⟨by rw[HE.out];rfl,aN HBL.out hw⟩
     | false=>
      obtain ⟨d,hd,hkd⟩:=Ko hfn
      have htv:=(List.getElem?_eq_some_iff.1 hd).1
      have HST:Hid (∀w',Below (wr.alloc (.cells #[.string S,.pointer p] 325)).drew.heap.size (wr.alloc (.cells #[.string S,.pointer p] 325)).drew w'->w'.cell? ⟨ck,0,none⟩=some (.slice adv vs.length capv)/\w'.cell? ⟨gv,t*3,none⟩=some (.int .i64 (d.kind:Int))):=fun w' hw=>
       ⟨aM hw (aA HC2.out.box 0 rfl),aM hw (HC2.out.hk t d hd)⟩
      have hixv:=ixV adv gv vs.length capv t htv (fun h=>(HC2.out.hv h).1)
      by_cases hk1:d.kind=1
      ·have HE:Hid (cU vs l=1):=by
        have:nD vs a=1:=by unfold nD;rw[hfn,hb.out,hkd,hk1];rfl
        rw[Hid,wQ HZ.out hak.out (by rw[this];simp),this]
       rw[hk1] at HST
       clear hfn hd hkd htv hk1
       go_wp2_with (refine hst.mono ?_;rintro e w' ⟨rfl,hw⟩;obtain ⟨d0,d1⟩:=HST.out w' hw)
       go_ret
       exact ⟨by rw[HE.out];rfl,aN HBL.out hw⟩
      ·have HE:Hid (nD vs a=0):=by
        unfold nD;rw[hfn,hb.out,hkd,if_neg hk1];rfl
       have hk2:¬((d.kind:Nat):Int)=1:=by omega
       have hk3:(((d.kind:Nat):Int)==1)=false:=by simp;omega
       clear hfn hd hkd htv hk1
       go_wp2_with (refine hst.mono ?_;rintro e w' ⟨rfl,hw⟩;obtain ⟨d0,d1⟩:=HST.out w' hw)
       go_roundg (N-(k+1))
       case measure=>omega
       case rel=>
        refine ⟨k+1,rfl,by omega,by go_num,aN HBL.out hw,fun j a' hj ha'=>?_⟩
        by_cases e:j=k
        ·subst e
         have:=hak.out
         rw[ha'] at this
         injection this with this
         subst this
         exact HE.out
        ·exact HZ.out j a' (by omega) ha'
  ·obtain rfl:k=N:=by omega
   have HE:Hid (cU vs l=0):=Ic (by rw[<-hN.out];exact hr.out.2)
   have HB:Hid (Below w.heap.size w wr):=hr.out.1
   clear hr
   go_wp2_with fail
   go_ret
   exact ⟨by rw[HE.out];rfl,HB.out⟩
end
end
section
open Go.RowKit Px
theorem jI.pt' {A:Nat->Prop}{w:World}{e:E}{v:Value}(h:jI A w e v):∃u,v=.pointer u:=by
 cases e with
 | nil=>exact ⟨none,h⟩
 | node _ _ _ _ _=>obtain ⟨g',_,_,e,_⟩:=h;exact ⟨_,e⟩
theorem cE.open {A:Nat->Prop}{w:World}{l:List iQ}{v:Value}(h:cE A w l v) :
    ∃ad g cap,v=.slice ad l.length cap/\l.length≤maxLen/\(0<l.length->ad=some ⟨g,0,none⟩/\g<w.heap.size)/\∀(i:Nat) (a:iQ),l[i]?=some a->∃p,w.cell? ⟨g,i*2,none⟩=some (sv a.name)/\w.cell? ⟨g,i*2+1,none⟩=some (.pointer p)/\jI A w a.e (.pointer p):=by
 obtain ⟨xs,hr,hs⟩:=h
 obtain ⟨ad,g,cap,h1,h2,h3,h4⟩:=uX.open (k:=2) (fun a c ⟨p,hc,_⟩=>by rw[hc];rfl) hr hs
 refine ⟨ad,g,cap,h1,h2,fun hp=>⟨(h3 hp).1,(h3 hp).2.2⟩,fun i a hi=>?_⟩
 obtain ⟨c,⟨p,rfl,hp⟩,hx⟩:=h4 i a hi
 obtain ⟨u,rfl⟩:=hp.pt'
 exact ⟨u,hx 0 _ rfl,hx 1 _ rfl,hp⟩
section
variable {ck pb mb nm gv:Nat}{adv:Option Addr}{capv:Nat}{vs:List bJ}
theorem nN {w:World}{n:Nat}(h:jV w ck pb mb nm gv adv capv vs n) {l:List iQ}{v:Value}{A:Nat->Prop}(hl:cE A w l v) (hNm:lF l) :
    Calls Tryz.prog 226 #[.pointer (some ⟨ck,0,none⟩),v] w fun r w'=>r=.returned (.int .i64 ((cU vs l:Nat):Int))/\Below w.heap.size w w':=by
 obtain ⟨ad,g,cap,rfl,h2,h3,h4⟩:=hl.open
 exact Tw h rfl h2 h3 hNm h4
def Sl (y:Wy):Prop:=y.to.length≤maxLen/\zB y.cond/\lF y.sets
theorem Kt {w:World}{n:Nat}(h:jV w ck pb mb nm gv adv capv vs n) {y:Wy}{ns:List bB}{gy o pb2 mb2 nm2:Nat}{p:Option Addr}{q:Value}{A:Nat->Prop}(inside:Bool)
    (c0:w.cell? ⟨gy,o,none⟩=some (.int .i64 (y.kind:Int))) (c1:w.cell? ⟨gy,o+1,none⟩=some (.bool y.now)) (c2:w.cell? ⟨gy,o+2,none⟩=some (.pointer p)) (c3:w.cell? ⟨gy,o+3,none⟩=some (.int .i64 (y.times:Int))) (c4:w.cell? ⟨gy,o+4,none⟩=some q) (c5:w.cell? ⟨gy,o+5,none⟩=some (sv y.to))
    (he:jI A w y.cond (.pointer p)) (hs:cE A w y.sets q) (hN:Sl y)
    (hp2:w.heap[pb2]?=some (.cells #[.map (some mb2)] 213 (0,0))) (hm2:gY w mb2 nm2 (jK ns)) :
    Calls Tryz.prog 228 #[.pointer (some ⟨ck,0,none⟩),.pointer (some ⟨gy,o,none⟩),.bool inside,.func (.func 143) #[] #[.pointer (some ⟨pb2,0,none⟩)]] w fun r w'=>r=.returned (.int .i64 ((mY vs ns inside y:Nat):Int))/\Below w.heap.size w w':=by
 obtain ⟨n1,n2,n3⟩:=hN
 have hf:=mQ (s:=y.to) hp2 hm2 n1
 have hst:=oL h he n2
 have HSE:Hid (∀w',Below w.heap.size w w'->Calls Tryz.prog 226 #[.pointer (some ⟨ck,0,none⟩),q] w' fun r w''=>r=.returned (.int .i64 ((cU vs y.sets:Nat):Int))/\Below w'.heap.size w' w''):=fun w' hb=>
  nN (h.below hb) (hs.carry fun x hx hlt=>⟨hx,hb.block x hlt⟩) n3
 have HC4:Hid (∀w',Below w.heap.size w w'->w'.cell? ⟨gy,o+4,none⟩=some q):=fun w' hb=>aM hb c4
 clear h he hs hp2 hm2 n1 n2 n3 c4
 obtain ⟨S,hS⟩:∃S,sv y.to=S:=⟨_,rfl⟩
 rw[hS] at c5 hf
 clear hS
 obtain ⟨B,hB⟩:∃B,Hid ((((decide (y.kind=2) && !inside)||(y.now&&decide (1<y.times))))=B):=⟨_,rfl⟩
 obtain ⟨Z,hZ⟩:∃Z,Hid (dF (cD vs) y.cond=Z):=⟨_,rfl⟩
 rw[hZ.out] at hst
 cases hfn:jK ns y.to with
 | none=>
  have e:eB ns y.to=-1:=by unfold eB;rw[hfn]
  rw[e] at hf
  have HE:Hid (mY vs ns inside y=7):=by unfold Hid mY;rw[hfn];rfl
  clear e hfn hst
  go_enter Tryz.func228,Tryz.ntmps228
  go_wp2_with (refine hf.mono ?_;rintro e w' ⟨rfl,rfl⟩)
  go_ret
  exact ⟨by rw[HE.out];rfl,Below.refl _ _⟩
 | some t=>
  have e:eB ns y.to=(t:Int):=by unfold eB;rw[hfn]
  rw[e] at hf
  have hti:¬(t:Int)<0:=by omega
  have HE:Hid (mY vs ns inside y=if B then 6 else if Z then 5 else cU vs y.sets):=by unfold Hid mY;rw[hfn,hB.out,hZ.out];rfl
  clear e hfn
  go_enter Tryz.func228,Tryz.ntmps228
  go_upto_region 3 with (refine hf.mono ?_;rintro e w' ⟨rfl,hw'⟩;obtain rfl:=hw'.symm)
  clear hf hti
  go_cut [37] (fun s wx=>Hid (s=.bool B/\wx=w))
  case first=>
   obtain ⟨nw,hnw⟩:∃nw,Hid (y.now=nw):=⟨_,rfl⟩
   rw[hnw.out] at c1
   by_cases hk:y.kind=2
   ·rw[hk] at c0
    cases inside with
    | false=>
     have hBt:B=true:=by rw[<-hB.out,hk];rfl
     subst hBt
     go_wp2_with fail
     go_meet
     case rel=>exact ⟨rfl,rfl⟩
    | true=>
     cases nw with
     | false=>
      have hBt:B=false:=by rw[<-hB.out,hk,hnw.out];rfl
      subst hBt
      go_wp2_with fail
      go_meet
      case rel=>exact ⟨rfl,rfl⟩
     | true=>
      by_cases ht:1<y.times
      ·have hBt:B=true:=by rw[<-hB.out,hk,hnw.out];simp[ht]
       subst hBt
       have ht':(1:Int)<(y.times:Int):=by omega
       clear ht
       go_wp2_with fail
       go_meet
       case rel=>exact ⟨rfl,rfl⟩
      ·have hBt:B=false:=by rw[<-hB.out,hk,hnw.out];simp[ht]
       subst hBt
       have ht':¬(1:Int)<(y.times:Int):=by omega
       clear ht
       go_wp2_with fail
       go_meet
       case rel=>exact ⟨rfl,rfl⟩
   ·have hk2:¬(y.kind:Int)=2:=by omega
    have hk3:((y.kind:Int)==2)=false:=by simp;omega
    cases nw with
    | false=>
     have hBt:B=false:=by rw[<-hB.out,hnw.out];simp[hk]
     subst hBt
     go_wp2_with fail
     go_meet
     case rel=>exact ⟨rfl,rfl⟩
    | true=>
     by_cases ht:1<y.times
     ·have hBt:B=true:=by rw[<-hB.out,hnw.out];simp[ht]
      subst hBt
      have ht':(1:Int)<(y.times:Int):=by omega
      clear ht
      go_wp2_with fail
      go_meet
      case rel=>exact ⟨rfl,rfl⟩
     ·have hBt:B=false:=by rw[<-hB.out,hnw.out];simp[ht,hk]
      subst hBt
      have ht':¬(1:Int)<(y.times:Int):=by omega
      clear ht
      go_wp2_with fail
      go_meet
      case rel=>exact ⟨rfl,rfl⟩
  case rest=>
   obtain ⟨hs,hw⟩:=hcut.out
   subst hs
   subst hw
   clear hcut c0 c1 c3 c5 hB hZ
   cases B with
   | true=>
    rw[if_pos rfl] at HE
    go_wp2_with fail
    go_ret
    exact ⟨by rw[HE.out];rfl,Below.refl _ _⟩
   | false=>
    rw[if_neg (by simp)] at HE
    cases Z with
    | true=>
     rw[if_pos rfl] at HE
     go_wp2_with (refine hst.mono ?_;rintro e w' ⟨rfl,hw⟩)
     go_ret
     exact ⟨by rw[HE.out];rfl,hw⟩
    | false=>
     rw[if_neg (by simp)] at HE
     obtain ⟨M,hM⟩:∃M,Hid (cU vs y.sets=M):=⟨_,rfl⟩
     rw[hM.out] at HE HSE
     go_wp2_with (first
      | (go_at_call 227;refine hst.mono ?_;rintro e w' ⟨rfl,hw⟩;have c4':=HC4.out w' hw)
      | (go_at_call 226;refine (HSE.out w' hw).mono ?_;rintro e w'' ⟨rfl,hw2⟩))
     go_ret
     exact ⟨by rw[HE.out];rfl,aN hw hw2⟩
end
end
section
open Go.RowKit Px
def Xq (A:Nat->Prop) (w:World) (v:Value) (zs:List Nat):Prop:=∃ad g cap,v=.slice ad zs.length cap/\(0<zs.length->ad=some ⟨g,0,none⟩/\A g/\g<w.heap.size)/\∀k,k<zs.length->w.cell? ⟨g,k,none⟩=some (.int .i64 ((zs.getD k 0:Nat):Int))
def lV {ρ:Type}(w:World) (g:Nat) (l:List (cC ρ)):Prop:=∀i s,l[i]?=some s->g<w.heap.size/\w.cell? ⟨g,i*9,none⟩=some (sv s.name)/\w.cell? ⟨g,i*9+1,none⟩=some (.bool s.first)/\s.name.length≤maxLen/\s.ways.length≤1000000/\
 ∃ay gy capy,w.cell? ⟨g,i*9+7,none⟩=some (.slice ay s.ways.length capy)/\(0<s.ways.length->ay=some ⟨gy,0,none⟩/\gy<w.heap.size)/\uD w gy s.ways
theorem uD.keep {w w':World}{gy:Nat}{ys:List Wy}(h:uD w gy ys) (hk:0<ys.length->w'.heap[gy]?=w.heap[gy]?):uD w' gy ys:=by
 intro m y hm
 have e:=hk (by have:=(List.getElem?_eq_some_iff.1 hm).1;omega)
 have ec:∀o,w'.cell? ⟨gy,o,none⟩=w.cell? ⟨gy,o,none⟩:=fun o=>World.cell?_of_block (w:=w) (a:=⟨gy,o,none⟩) e
 obtain ⟨p,q,h⟩:=h m y hm
 refine ⟨p,q,?_⟩
 simp only[ec]
 exact h
theorem lV.below {ρ:Type}{w w':World}{g:Nat}{l:List (cC ρ)}(h:lV w g l) (hb:Below w.heap.size w w'):lV w' g l:=by
 intro i s hi
 obtain ⟨h0,h1,h2,h3,h4,ay,gy,capy,h5,h6,h7⟩:=h i s hi
 exact ⟨Nat.lt_of_lt_of_le h0 hb.size,aM hb h1,aM hb h2,h3,h4,ay,gy,capy,aM hb h5,fun hp=>⟨(h6 hp).1,Nat.lt_of_lt_of_le (h6 hp).2 hb.size⟩,h7.keep fun hp=>hb.block gy (h6 hp).2⟩
theorem lV.names {ρ:Type}{w:World}{g:Nat}{l:List (cC ρ)}(h:lV w g l):K0 w g l.length (bA l):=by
 refine ⟨(nC l).symm,fun i hi=>?_⟩
 obtain ⟨_,h1,_,h3,_⟩:=h i _ (List.getElem?_eq_getElem hi)
 rw[zI l i _ (List.getElem?_eq_getElem hi)]
 exact ⟨h1,h3⟩
theorem Tryz.ckInfoInt:(Tryz.prog.info? 3).map (fun i=>(i.zero,i.size,i.bytes))=some (some (.int .i64 0),1,8):=by kernel_rfl
theorem Rr (n:Nat):(madeCells (Value.cells (.int .i64 0)) (n*1))=((List.replicate n (0:Int)).map (Value.int .i64)).toArray:=by
 apply Array.toList_inj.1
 apply List.ext_getElem
 ·simp[madeCells]
 ·intro k h1 h2
  simp[madeCells,Value.cells,Nat.mod_one]
theorem Gl (w:World) (l n:Nat) (hl:l≤n) (hn:n≤1000000):(Instr.makeSlice 23 (.int .i64 (l:Int)) (.int .i64 (n:Int))).run Tryz.prog w=.ok (.slice (some ⟨w.heap.size,0,none⟩) l n) (w.alloc (.cells ((List.replicate n (0:Int)).map (Value.int .i64)).toArray 3)):=by
 obtain ⟨i0,hi,hz0,hz1,hz2⟩:=info_parts Tryz.ckInfoInt
 have:=run_make (P:=Tryz.prog) w 23 3 i0 (.int .i64 0) Tryz.underlying23 hi hz0 .i64 .i64 (l:Int) (n:Int) (by omega) (by omega) (by rw[hz2];omega) (by omega)
 rw[this,hz1]
 simp only[Int.toNat_natCast]
 rw[Rr]
theorem K9 {P:Program}{w w':World}{ops:Array Oper}{rest:List Oper}{o:Oper}{a:Act}{Q:Exit->Act->World->Prop}(hgd:o.guard=none) (s x:Operand) (t:TypeId)
    (ho:o.op=.call { callee:=.builtin .append,args:=#[s,x],argTypes:=#[t,t] }) (vs vx r:Value) (hs:a.eval s=vs) (hx:a.eval x=vx) (hr:(Builtin.append_ #[t,t] o.type #[vs,vx]).run P w=.ok r w') (h:wpList P ops Q rest (a.put o.dst r) w'):wpList P ops Q (o::rest) a w:=
 wpList_plain hgd fun _ hK=>by
  unfold Oper.wp execOp
  simp only[ho,resolve,invoke,builtin,Sem.run_bind,Sem.run_pure,Result.andThen_ok,List.map_toArray,List.map_cons,List.map_nil,hs,hx,hr]
  exact hK _ _ h
theorem Zx {w:World}{go r n q:Nat}{X:List Int}(x:Int) (hX:dD w go X) (hn:X.length=n) (hr:r<n) (hq:w.cell? ⟨q,0,none⟩=some (.int .i64 x)) :
    (Builtin.append_ #[23,23] 23 #[.slice (some ⟨go,0,none⟩) r n,.slice (some ⟨q,0,none⟩) 1 1]).run Tryz.prog w=.ok (.slice (some ⟨go,0,none⟩) (r+1) n) (w.setCell ⟨go,r,none⟩ (.int .i64 x)):=by
 obtain ⟨i0,hi,hz0,hz1,hz2⟩:=info_parts Tryz.ckInfoInt
 have hcell:=hX.cell r (by omega)
 have:=run_append_room_cells (P:=Tryz.prog) w 23 23 3 i0 Tryz.underlying23 hi go 0 r n ⟨q,0,none⟩ 1 1 [.int .i64 x] (by rw[hz1];rfl) (fun j u hj=>by
  cases j with
  | zero=>simp at hj;subst hj;simpa [Addr.add] using hq
  | succ j=>simp at hj) (by simp[Value.oneCell']) (by omega) (fun j hj=>by
   obtain rfl:j=0:=by simpa using hj
   rw[hz1,Nat.zero_add,Nat.mul_one,Nat.add_zero,hcell];rfl) (fun j hj=>by
   obtain rfl:j=0:=by simpa using hj
   rw[hz1,Nat.zero_add,Nat.mul_one,Nat.add_zero];exact aE hX _)
 rw[this,hz1,Nat.zero_add,Nat.mul_one]
 rfl
structure Li {ρ:Type}(W:World) (ad:Option Addr) (g n cap rb fb wb gw pb mb nm:Nat) (l:List (cC ρ)):Prop where
 hrb:W.cell? ⟨rb,0,none⟩=some (.slice ad n cap)
 hfb:W.cell? ⟨fb,0,none⟩=some (.func (.func 143) #[] #[.pointer (some ⟨pb,0,none⟩)])
 hwb:W.cell? ⟨wb,0,none⟩=some (.slice (some ⟨gw,0,none⟩) n n)
 hpb:W.heap[pb]?=some (.cells #[.map (some mb)] 213 (0,0))
 hmb:gY W mb nm (jK (bA l))
 sts:lV W g l
 gl:∀i s,l[i]?=some s->g≠gw/\∀ay gy capy,W.cell? ⟨g,i*9+7,none⟩=some (.slice ay s.ways.length capy)->0<s.ways.length->ay=some ⟨gy,0,none⟩->gy≠gw
 ne:gw≠rb/\gw≠fb/\gw≠wb/\gw≠pb/\gw≠mb
theorem Li.fr {ρ:Type}{W wr:World}{ad:Option Addr}{g n cap rb fb wb gw pb mb nm:Nat}{l:List (cC ρ)}(h:Li W ad g n cap rb fb wb gw pb mb nm l) (hF:Fr W.heap.size [gw] W wr):Li wr ad g n cap rb fb wb gw pb mb nm l:=by
 obtain ⟨e1,e2,e3,e4,e5⟩:=h.ne
 have hc:∀{b o:Nat}{v:Value},b≠gw->W.cell? ⟨b,o,none⟩=some v->wr.cell? ⟨b,o,none⟩=some v:=fun {b o v} hb hv=>by
  rw[hF.cell (p:=⟨b,o,none⟩) (World.block_lt_of_cell? W _ hv) (by simpa using hb)];exact hv
 have hg:∀{b:Nat},b≠gw->b<W.heap.size->wr.heap[b]?=W.heap[b]?:=fun {b} hb hl=>hF.block b hl (by simpa using hb)
 have hs:lV wr g l:=by
  intro i s hi
  obtain ⟨h0,h1,h2,h3,h4,ay,gy,capy,h5,h6,h7⟩:=h.sts i s hi
  have hgg:=(h.gl i s hi).1
  have hyy:=(h.gl i s hi).2 ay gy capy h5
  exact ⟨Nat.lt_of_lt_of_le h0 hF.size,hc hgg h1,hc hgg h2,h3,h4,ay,gy,capy,hc hgg h5,fun hp=>⟨(h6 hp).1,Nat.lt_of_lt_of_le (h6 hp).2 hF.size⟩,h7.keep fun hp=>hg (hyy hp (h6 hp).1) (h6 hp).2⟩
 refine ⟨hc (Ne.symm e1) h.hrb,hc (Ne.symm e2) h.hfb,hc (Ne.symm e3) h.hwb,by rw[hg (Ne.symm e4) (aB h.hpb)];exact h.hpb,h.hmb.keep (hg (Ne.symm e5) h.hmb.lt),hs,fun i s hi=>⟨(h.gl i s hi).1,fun ay gy capy hcell=>(h.gl i s hi).2 ay gy capy ?_⟩,h.ne⟩
 rw[<-hcell,hF.cell (p:=⟨g,i*9+7,none⟩) (h.sts i s hi).1 (by simpa using (h.gl i s hi).1)]
theorem Li.count {ρ:Type}{W:World}{ad:Option Addr}{g n cap rb fb wb gw pb mb nm:Nat}{l:List (cC ρ)}(h:Li W ad g n cap rb fb wb gw pb mb nm l) (hn:n=l.length) (ha:0<n->ad=some ⟨g,0,none⟩) {V:List Int}(hV:dD W gw V) (hVl:V.length=n) (by':Int) (i:Nat) (hi:i<n)
    (hbd:∀m j,m≤((cL l).getD i []).length->-4611686018427387904≤(jA n by' ((cL l).getD i []) m V).getD j 0/\(jA n by' ((cL l).getD i []) m V).getD j 0≤4611686018427387904) :
    Calls Tryz.prog 229 #[.int .i64 (i:Int),.int .i64 by',.pointer (some ⟨rb,0,none⟩),.pointer (some ⟨fb,0,none⟩),.pointer (some ⟨wb,0,none⟩)] W fun e w'=>e=.returned (.tuple #[])/\Hid (dD w' gw (jA n by' ((cL l).getD i []) ((cL l).getD i []).length V)/\Fr W.heap.size [gw] W w'):=by
 obtain ⟨s,hs⟩:∃s,l[i]?=some s:=⟨l[i]'(by omega),List.getElem?_eq_getElem (by omega)⟩
 obtain ⟨e1,e2,e3,e4,e5⟩:=h.ne
 obtain ⟨h0,h1,h2,h3,h4,ay,gy,capy,h5,h6,h7⟩:=h.sts i s hs
 rw[Pz l i s hs,wC] at hbd ⊢
 exact Ac by' hi ha (N:=s.ways.length) rfl h4 ⟨hVl.symm,fun s t ht=>by have:=(sK ht).1;rw[nC] at this;omega⟩ h.hrb h.hfb h.hwb h.hpb h.hmb hV h5 h6 h7 ⟨e2,e3,e4,e5,fun hp=>Ne.symm ((h.gl i s hs).2 ay gy capy h5 hp (h6 hp).1)⟩ hbd
theorem A0 {ρ:Type}(l:List (cC ρ)) (T:List Bool) (j:Nat) (k:Nat) (hk:k≤l.length) (hl:l.length≤1000000) (hw:∀s∈l,s.ways.length≤1000000):qI (cL l) T j k≤1000000000000:=by
 have:=Wg (cL l) T j 1000000 (fun i=>by
  rw[cL,List.getD_eq_getElem?_getD,List.getElem?_map]
  cases h:l[i]? with
  | none=>simp
  | some s=>simp only[Option.map_some,Option.getD_some];rw[wC];exact hw s (List.mem_of_getElem? h)) k
 have h2:k*1000000≤1000000*1000000:=Nat.mul_le_mul_right _ (by omega)
 omega
theorem zU {ρ:Type}(l:List (cC ρ)) (hw:∀s∈l,s.ways.length≤1000000) (i:Nat):((cL l).getD i []).length≤1000000:=by
 rw[cL,List.getD_eq_getElem?_getD,List.getElem?_map]
 cases h:l[i]? with
 | none=>simp
 | some s=>simp only[Option.map_some,Option.getD_some];rw[wC];exact hw s (List.mem_of_getElem? h)
theorem yC (n:Nat) (by':Int) (hby:by'=1\/by'=-1) (ts:List (Option Nat)) (hts:ts.length≤1000000) (V:List Int) (hV:∀j,-1≤V.getD j 0/\V.getD j 0≤1000000000000) (m j:Nat) (hm:m≤ts.length):-4611686018427387904≤(jA n by' ts m V).getD j 0/\(jA n by' ts m V).getD j 0≤4611686018427387904:=by
 by_cases hj:j<V.length
 ·rw[J0 n by' ts V m hm j hj]
  have h1:=List.count_le_length (a:=some j) (l:=ts.take m)
  have h2:(ts.take m).length≤ts.length:=by rw[List.length_take];omega
  have h3:=hV j
  rcases hby with rfl|rfl<;>omega
 ·rw[List.getD_eq_getElem?_getD,List.getElem?_eq_none (by rw[lT];omega)]
  simp
end
end Go.Proofs.YtcdbhoknhnimcaaGreatDoor
