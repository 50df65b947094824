import Derived.Test.YtcdbhoknhnimcaaGreatDoorTNt5
set_option maxHeartbeats 1000000
namespace Go.Proofs.YtcdbhoknhnimcaaGreatDoor
section
open Go.RowKit
namespace Nx
theorem sE (p P:Int) (bn:Nat) (w:World) (hc:w.cell? ⟨bn,0,none⟩=some (.int .i64 P)) :
    Calls Tryz.prog 55 #[.int .i64 p,.pointer (some ⟨bn,0,none⟩)] w fun e w'=>e=.returned (.bool (cH P p))/\w'=w:=by
 by_cases h0:0≤p
 ·have E:Hid (cH P p=decide (p<P)):=by unfold Hid cH;simp[h0]
  go_enter Tryz.func55,Tryz.ntmps55
  go_wp2
  go_ret
  exact ⟨by rw[E.out];rfl,rfl⟩
 ·have E:Hid (cH P p=false):=by unfold Hid cH;simp[h0]
  have h1:p<0:=by omega
  go_enter Tryz.func55,Tryz.ntmps55
  go_wp2
  go_ret
  exact ⟨by rw[E.out];rfl,rfl⟩
theorem Ix (p P:Int) (bn qb:Nat) (w:World) (hc:w.cell? ⟨bn,0,none⟩=some (.int .i64 P)) (hq:w.cell? ⟨qb,0,none⟩=some (.func (.func 55) #[] #[.pointer (some ⟨bn,0,none⟩)])) :
    Calls Tryz.prog 152 #[.int .i64 p,.pointer (some ⟨qb,0,none⟩)] w fun e w'=>e=.returned (.bool (!cH P p))/\w'=w:=by
 have h:=sE p P bn w hc
 obtain ⟨b,hb⟩:∃b,b=cH P p:=⟨_,rfl⟩
 rw[<-hb] at h ⊢
 clear hb
 go_enter Tryz.func152,Tryz.ntmps152
 go_wp2_with (go_at_call 55;refine h.mono ?_;rintro e w' ⟨rfl,hw⟩;obtain rfl:=hw.symm)
 go_ret
 exact ⟨rfl,rfl⟩
theorem pY {A:Nat->Prop}(v:Value) (zs:List Int) (P:Int) (bn qb:Nat) (w:World) (h:bL A w v zs) (hbig:zs.length≤100000) (hc:w.cell? ⟨bn,0,none⟩=some (.int .i64 P)) (hq:w.cell? ⟨qb,0,none⟩=some (.func (.func 55) #[] #[.pointer (some ⟨bn,0,none⟩)])) :
    Calls Tryz.prog 165 #[v,.func (.func 152) #[] #[.pointer (some ⟨qb,0,none⟩)]] w fun e w'=>∃r:Int,e=.returned (.int .i64 r)/\decide (0≤r)=!zs.all (cH P)/\w'=w:=by
 obtain ⟨ad,b,off,cap,rfl,h1,h2⟩:=h
 have H1:Hid (0<zs.length->ad=some ⟨b,off,none⟩/\A b):=h1
 have H2:Hid _:=h2
 have hN:=fun p=>Ix p P bn qb w hc hq
 clear h1 h2 hc hq
 go_enter Tryz.func165,Tryz.ntmps165
 go_wp2
 go_loop [8] (fun i=>∃k:Nat,k≤zs.length/\i=.int .i64 k/\∀j,j<k->cH P (zs.getD j 0)=true) (fun i=>zs.length-(intOf i).toNat)
 case atStart=>exact ⟨0,Nat.zero_le _,rfl,fun j hj=>by omega⟩
 case round=>
  obtain ⟨k,hk,rfl,hall⟩:=hrel
  have HA:Hid _:=hall
  clear hall
  by_cases hlt:k<zs.length
  ·have hix:=Jr ad b off zs.length cap k hlt (fun h=>(H1.out h).1)
   obtain ⟨x,hx⟩:∃x,x=zs.getD k 0:=⟨_,rfl⟩
   have cx:w.cell? ⟨b,off+k,none⟩=some (.int .i64 x):=by rw[hx];exact H2.out k hlt
   have HX:Hid _:=hx
   clear hx
   have hn:=hN x
   cases hb:cH P x with
   | true=>
    rw[hb] at hn
    have HB:Hid _:=hb
    clear hb
    go_wp2_with (go_at_call 152;refine hn.mono ?_;rintro e w' ⟨rfl,hw⟩;obtain rfl:=hw.symm)
    go_round
    case rel=>exact ⟨k+1,by omega,by go_num,fun j hj=>by
     by_cases e:j=k
     ·rw[e,<-HX.out];exact HB.out
     ·exact HA.out j (by omega)⟩
    case measure=>simp[intOf];omega
   | false=>
    rw[hb] at hn
    have HB:Hid _:=hb
    clear hb
    go_wp2_with (go_at_call 152;refine hn.mono ?_;rintro e w' ⟨rfl,hw⟩;obtain rfl:=hw.symm)
    go_ret
    refine ⟨k,rfl,?_,rfl⟩
    have:zs.all (cH P)=false:=by
     apply Bool.eq_false_iff.2
     intro h
     have:=List.all_eq_true.1 h (zs[k]) (List.getElem_mem hlt)
     have e:zs.getD k 0=zs[k]:=by simp[List.getD_eq_getElem?_getD,hlt]
     rw[<-e,<-HX.out,HB.out] at this;cases this
    rw[this];simp
  ·go_wp2
   go_ret
   refine ⟨-1,rfl,?_,rfl⟩
   have:zs.all (cH P)=true:=List.all_eq_true.2 fun y hy=>by
    obtain ⟨j,hj,rfl⟩:=List.getElem_of_mem hy
    have:=HA.out j (by omega)
    simpa [List.getD_eq_getElem?_getD,hj] using this
   rw[this];rfl
theorem I0 {A:Nat->Prop}(v:Value) (zs:List Int) (P:Int) (bn qb:Nat) (w:World) (h:bL A w v zs) (hbig:zs.length≤100000) (hc:w.cell? ⟨bn,0,none⟩=some (.int .i64 P)) (hq:w.cell? ⟨qb,0,none⟩=some (.func (.func 55) #[] #[.pointer (some ⟨bn,0,none⟩)])) :
    Calls Tryz.prog 151 #[v,.func (.func 152) #[] #[.pointer (some ⟨qb,0,none⟩)]] w fun e w'=>e=.returned (.bool (!zs.all (cH P)))/\w'=w:=by
 have hi:=pY v zs P bn qb w h hbig hc hq
 clear h hc hq
 go_enter Tryz.func151,Tryz.ntmps151
 go_wp2_with (go_at_call 165;refine hi.mono ?_;rintro e w' ⟨r,rfl,hr,hw⟩;obtain rfl:=hw.symm;have HR:Hid _:=hr;clear hr)
 go_ret
 exact ⟨by rw[<-HR.out];rfl,rfl⟩
theorem J6 {A:Nat->Prop}(v:Value) (zs:List Int) (P:Int) (bn:Nat) (w:World) (h:bL A w v zs) (hbig:zs.length≤100000) (hc:w.cell? ⟨bn,0,none⟩=some (.int .i64 P)) :
    Calls Tryz.prog 98 #[v,.func (.func 55) #[] #[.pointer (some ⟨bn,0,none⟩)]] w fun e w'=>e=.returned (.bool (zs.all (cH P)))/\Below w.heap.size w w':=by
 have hcon:=I0 v zs P bn w.heap.size (w.alloc (.cells #[.func (.func 55) #[] #[.pointer (some ⟨bn,0,none⟩)]] 112)) (h.carry fun b ha hl=>⟨ha,Below.heap_alloc _ _ _ hl⟩) hbig (aZ (aD w _) hc) (by simp)
 obtain ⟨bb,hbb⟩:∃bb,bb=zs.all (cH P):=⟨_,rfl⟩
 rw[<-hbb] at hcon ⊢
 clear h hc hbb
 go_enter Tryz.func98,Tryz.ntmps98
 go_wp2_with (go_at_call 151;refine hcon.mono ?_;rintro e w' ⟨rfl,hw⟩;obtain rfl:=hw.symm)
 go_ret
 refine ⟨?_,aD w _⟩
 cases bb<;>rfl
theorem aF3 (w:World) (a:Int):bL (fun b=>w.heap.size≤b) (w.alloc (.cells #[.int .i64 a] 3)) (.slice (some ⟨w.heap.size,0,none⟩) 1 1) [a]:=
 ⟨_,w.heap.size,0,1,rfl,fun _=>⟨rfl,Nat.le_refl _⟩,fun k hk=>by
  match k,hk with
  | 0,_=>simp⟩
theorem aF2 (w:World) (a b:Int):bL (fun b=>w.heap.size≤b) (w.alloc (.cells #[.int .i64 a,.int .i64 b] 3)) (.slice (some ⟨w.heap.size,0,none⟩) 2 2) [a,b]:=
 ⟨_,w.heap.size,0,2,rfl,fun _=>⟨rfl,Nat.le_refl _⟩,fun k hk=>by
  match k,hk with
  | 0,_=>simp
  | 1,_=>simp⟩
theorem aF1 (w:World) (a b c:Int):bL (fun b=>w.heap.size≤b) (w.alloc (.cells #[.int .i64 a,.int .i64 b,.int .i64 c] 3)) (.slice (some ⟨w.heap.size,0,none⟩) 3 3) [a,b,c]:=
 ⟨_,w.heap.size,0,3,rfl,fun _=>⟨rfl,Nat.le_refl _⟩,fun k hk=>by
  match k,hk with
  | 0,_=>simp
  | 1,_=>simp
  | 2,_=>simp⟩
theorem mS (code dst a b c:Int) (w:World) :
    Calls Tryz.prog 13 #[.agg #[.int .i64 code,.int .i64 dst,.int .i64 a,.int .i64 b,.int .i64 c]] w fun e w'=>∃v,e=.returned v/\bL (fun b=>w.heap.size≤b) w' v (asks ⟨code,dst,a,b,c⟩)/\Below w.heap.size w w':=by
 have hb0:=fun o=>aD w o
 by_cases h1:code=2\/code=4\/code=5
 ·have E:Hid (asks ⟨code,dst,a,b,c⟩=[a]):=by unfold Hid asks;rw[if_pos h1]
  rcases h1 with rfl|rfl|rfl
  all_goals
   go_enter Tryz.func13,Tryz.ntmps13
   go_wp2
   go_ret
   refine ⟨_,rfl,?_,eX (hb0 _) (aD _ _)⟩
   rw[E.out]
   obtain ⟨ad,bb,off,cap,e,x1,x2⟩:=aF3 (w.alloc (.cells #[.int .i64 _,.int .i64 dst,.int .i64 a,.int .i64 b,.int .i64 c] 39)) a
   refine ⟨ad,bb,off,cap,?_,fun hp=>⟨(x1 hp).1,Nat.le_trans (hb0 _).size (x1 hp).2⟩,x2⟩
   rw[<-e];simp
 ·by_cases h2:6≤code/\code≤16
  ·have E:Hid (asks ⟨code,dst,a,b,c⟩=[a,b]):=by unfold Hid asks;rw[if_neg h1,if_pos h2]
   obtain ⟨h3,h4⟩:=h2
   clear h1
   have t2:(code==2)=false:=by simp;omega
   have t4:(code==4)=false:=by simp;omega
   have t5:(code==5)=false:=by simp;omega
   go_enter Tryz.func13,Tryz.ntmps13
   go_wp2
   go_ret
   refine ⟨_,rfl,?_,eX (hb0 _) (aD _ _)⟩
   rw[E.out]
   obtain ⟨ad,bb,off,cap,e,x1,x2⟩:=aF2 (w.alloc (.cells #[.int .i64 code,.int .i64 dst,.int .i64 a,.int .i64 b,.int .i64 c] 39)) a b
   refine ⟨ad,bb,off,cap,?_,fun hp=>⟨(x1 hp).1,Nat.le_trans (hb0 _).size (x1 hp).2⟩,x2⟩
   rw[<-e];simp
  ·by_cases h3:code=17
   ·have E:Hid (asks ⟨code,dst,a,b,c⟩=[a,b,c]):=by unfold Hid asks;rw[if_neg h1,if_neg h2,if_pos h3]
    subst h3
    clear h1 h2
    go_enter Tryz.func13,Tryz.ntmps13
    go_wp2
    go_ret
    refine ⟨_,rfl,?_,eX (hb0 _) (aD _ _)⟩
    rw[E.out]
    obtain ⟨ad,bb,off,cap,e,x1,x2⟩:=aF1 (w.alloc (.cells #[.int .i64 17,.int .i64 dst,.int .i64 a,.int .i64 b,.int .i64 c] 39)) a b c
    refine ⟨ad,bb,off,cap,?_,fun hp=>⟨(x1 hp).1,Nat.le_trans (hb0 _).size (x1 hp).2⟩,x2⟩
    rw[<-e];simp
   ·have E:Hid (asks ⟨code,dst,a,b,c⟩=[]):=by unfold Hid asks;rw[if_neg h1,if_neg h2,if_neg h3]
    have t2:(code==2)=false:=by simp;omega
    have t4:(code==4)=false:=by simp;omega
    have t5:(code==5)=false:=by simp;omega
    have t17:(code==17)=false:=by simp;omega
    clear h1 h3
    by_cases h6:6≤code
    ·have h16:16<code:=by omega
     clear h2
     go_enter Tryz.func13,Tryz.ntmps13
     go_wp2
     go_ret
     exact ⟨_,rfl,by rw[E.out];exact ⟨none,0,0,0,rfl,fun h=>by simp at h,fun k hk=>by simp at hk⟩,hb0 _⟩
    ·have h16:code<6:=by omega
     clear h2
     go_enter Tryz.func13,Tryz.ntmps13
     go_wp2
     go_ret
     exact ⟨_,rfl,by rw[E.out];exact ⟨none,0,0,0,rfl,fun h=>by simp at h,fun k hk=>by simp at hk⟩,hb0 _⟩
end Nx
end
section
open Go.RowKit
namespace Nx
theorem aG4 (code dst a b c:Int) (w:World) (k:Nat) (hk:(asks ⟨code,dst,a,b,c⟩).length=k) :
    Calls Tryz.prog 13 #[.agg #[.int .i64 code,.int .i64 dst,.int .i64 a,.int .i64 b,.int .i64 c]] w fun e w'=>∃ad cap,e=.returned (.slice ad k cap)/\Hid (bL (fun b=>w.heap.size≤b) w' (.slice ad k cap) (asks ⟨code,dst,a,b,c⟩))/\Hid (Below w.heap.size w w'):=by
 subst hk
 refine (mS code dst a b c w).mono fun e w' ⟨v,he,hi,hb⟩=>?_
 obtain ⟨ad,b',off,cap,rfl,h1,h2⟩:=hi
 exact ⟨ad,cap,he,⟨ad,b',off,cap,rfl,h1,h2⟩,hb⟩
section
variable (code dst a b c P:Int) (nums bn:Nat) (w:World)
def sS (w1:World) (q bn:Nat) (code dst a b c P:Int):Prop:=
 w1.cell? ⟨q,0,none⟩=some (.int .i64 code)/\w1.cell? ⟨q,1,none⟩=some (.int .i64 dst)/\w1.cell? ⟨q,2,none⟩=some (.int .i64 a)/\w1.cell? ⟨q,3,none⟩=some (.int .i64 b)/\w1.cell? ⟨q,4,none⟩=some (.int .i64 c)/\w1.cell? ⟨bn,0,none⟩=some (.int .i64 P)
theorem sS.below {w1 w2:World}{q bn:Nat}{code dst a b c P:Int}(h:sS w1 q bn code dst a b c P) (hb:Below w1.heap.size w1 w2):sS w2 q bn code dst a b c P:=
 ⟨aZ hb h.1,aZ hb h.2.1,aZ hb h.2.2.1,aZ hb h.2.2.2.1,aZ hb h.2.2.2.2.1,aZ hb h.2.2.2.2.2⟩
theorem sS.start (hc:w.cell? ⟨bn,0,none⟩=some (.int .i64 P)):sS (w.alloc (.cells #[.int .i64 code,.int .i64 dst,.int .i64 a,.int .i64 b,.int .i64 c] 39)) w.heap.size bn code dst a b c P:=
 ⟨by simp,by simp,by simp,by simp,by simp,aZ (aD w _) hc⟩
theorem Hq (h:code<1\/17<code\/code=3) :
    Calls Tryz.prog 57 #[.agg #[.int .i64 code,.int .i64 dst,.int .i64 a,.int .i64 b,.int .i64 c],.int .i64 nums,.func (.func 55) #[] #[.pointer (some ⟨bn,0,none⟩)]] w fun e w'=>e=.returned (.int .i64 3)/\Below w.heap.size w w':=by
 have hb0:=fun o=>aD w o
 by_cases h1:code<1
 ·go_enter Tryz.func57,Tryz.ntmps57
  go_wp2
  go_ret
  exact ⟨rfl,hb0 _⟩
 ·by_cases h2:17<code
  ·have h3:1≤code:=by omega
   go_enter Tryz.func57,Tryz.ntmps57
   go_wp2
   go_ret
   exact ⟨rfl,hb0 _⟩
  ·obtain rfl:code=3:=by omega
   go_enter Tryz.func57,Tryz.ntmps57
   go_wp2
   go_ret
   exact ⟨rfl,hb0 _⟩
theorem Mn (hc:w.cell? ⟨bn,0,none⟩=some (.int .i64 P)) (h1:1≤code) (h2:code≤17) (h3:code≠3) (hd:cH P dst=false) :
    Calls Tryz.prog 57 #[.agg #[.int .i64 code,.int .i64 dst,.int .i64 a,.int .i64 b,.int .i64 c],.int .i64 nums,.func (.func 55) #[] #[.pointer (some ⟨bn,0,none⟩)]] w fun e w'=>e=.returned (.int .i64 2)/\Below w.heap.size w w':=by
 have t3:(code==3)=false:=by simpa using h3
 have HB:Hid (∀w1,Below (w.alloc (.cells #[.int .i64 code,.int .i64 dst,.int .i64 a,.int .i64 b,.int .i64 c] 39)).heap.size (w.alloc (.cells #[.int .i64 code,.int .i64 dst,.int .i64 a,.int .i64 b,.int .i64 c] 39)) w1->w1.cell? ⟨w.heap.size,1,none⟩=some (.int .i64 dst)/\(Calls Tryz.prog 55 #[.int .i64 dst,.pointer (some ⟨bn,0,none⟩)] w1 fun e w'=>e=.returned (.bool false)/\w'=w1)/\Hid (Below w.heap.size w w1)):=fun w1 hb=>by
  have hx:=(sS.start code dst a b c P bn w hc).below hb
  have:=sE dst P bn w1 hx.2.2.2.2.2
  rw[hd] at this
  exact ⟨hx.2.1,this,eX (aD w _) hb⟩
 have hask:=mS code dst a b c (w.alloc (.cells #[.int .i64 code,.int .i64 dst,.int .i64 a,.int .i64 b,.int .i64 c] 39))
 clear hc hd h3
 go_enter Tryz.func57,Tryz.ntmps57
 go_wp2_with (first|(go_at_call 13;refine hask.mono ?_;rintro e w1 ⟨v,rfl,hI,hb1⟩;obtain ⟨d1,hpl,HB1⟩:=HB.out w1 hb1;clear hI hb1 hask)|(go_at_call 55;refine hpl.mono ?_;rintro e w2 ⟨rfl,hw⟩;obtain rfl:=hw.symm))
 go_ret
 exact ⟨rfl,HB1.out⟩
theorem Hr (hc:w.cell? ⟨bn,0,none⟩=some (.int .i64 P)) (h1:1≤code) (h2:code≤17) (h3:code≠3) (hd:cH P dst=true) (ha:(asks ⟨code,dst,a,b,c⟩).all (cH P)=false) :
    Calls Tryz.prog 57 #[.agg #[.int .i64 code,.int .i64 dst,.int .i64 a,.int .i64 b,.int .i64 c],.int .i64 nums,.func (.func 55) #[] #[.pointer (some ⟨bn,0,none⟩)]] w fun e w'=>e=.returned (.int .i64 2)/\Below w.heap.size w w':=by
 have t3:(code==3)=false:=by simpa using h3
 have hl:(asks ⟨code,dst,a,b,c⟩).length≤100000:=by unfold asks;split<;>(try split)<;>(try split)<;>simp
 have HB:Hid (∀w1 v,bL (fun y=>(w.alloc (.cells #[.int .i64 code,.int .i64 dst,.int .i64 a,.int .i64 b,.int .i64 c] 39)).heap.size≤y) w1 v (asks ⟨code,dst,a,b,c⟩)->Below (w.alloc (.cells #[.int .i64 code,.int .i64 dst,.int .i64 a,.int .i64 b,.int .i64 c] 39)).heap.size (w.alloc (.cells #[.int .i64 code,.int .i64 dst,.int .i64 a,.int .i64 b,.int .i64 c] 39)) w1->w1.cell? ⟨w.heap.size,1,none⟩=some (.int .i64 dst)/\(Calls Tryz.prog 55 #[.int .i64 dst,.pointer (some ⟨bn,0,none⟩)] w1 fun e w'=>e=.returned (.bool true)/\w'=w1)/\
     (Calls Tryz.prog 98 #[v,.func (.func 55) #[] #[.pointer (some ⟨bn,0,none⟩)]] w1 fun e w'=>e=.returned (.bool false)/\Below w.heap.size w w')):=fun w1 v hi hb=>by
  have hx:=(sS.start code dst a b c P bn w hc).below hb
  have:=sE dst P bn w1 hx.2.2.2.2.2
  rw[hd] at this
  have h5:=J6 v _ P bn w1 hi hl hx.2.2.2.2.2
  rw[ha] at h5
  exact ⟨hx.2.1,this,h5.mono fun e w' ⟨he,hb'⟩=>⟨he,eX (eX (aD w _) hb) hb'⟩⟩
 have hask:=mS code dst a b c (w.alloc (.cells #[.int .i64 code,.int .i64 dst,.int .i64 a,.int .i64 b,.int .i64 c] 39))
 clear hc hd h3 ha hl
 go_enter Tryz.func57,Tryz.ntmps57
 go_wp2_with (first|(go_at_call 13;refine hask.mono ?_;rintro e w1 ⟨v,rfl,hI,hb1⟩;obtain ⟨d1,hpl,hall⟩:=HB.out w1 v hI hb1;clear hI hb1 hask)|(go_at_call 55;refine hpl.mono ?_;rintro e w2 ⟨rfl,hw⟩;obtain rfl:=hw.symm)|(go_at_call 98;refine hall.mono ?_;rintro e w2 ⟨rfl,hb2⟩))
 go_ret
 exact ⟨rfl,hb2⟩
theorem dJ (k:Nat) (hc:w.cell? ⟨bn,0,none⟩=some (.int .i64 P)) (hd:cH P dst=true) (ha:(asks ⟨code,dst,a,b,c⟩).all (cH P)=true) (hk:(asks ⟨code,dst,a,b,c⟩).length=k) (hk0:k≤3) :
    (Calls Tryz.prog 13 #[.agg #[.int .i64 code,.int .i64 dst,.int .i64 a,.int .i64 b,.int .i64 c]] (w.alloc (.cells #[.int .i64 code,.int .i64 dst,.int .i64 a,.int .i64 b,.int .i64 c] 39)) fun e w1=>∃ad cap,e=.returned (.slice ad k cap)/\w1.cell? ⟨w.heap.size,1,none⟩=some (.int .i64 dst)/\(Calls Tryz.prog 55 #[.int .i64 dst,.pointer (some ⟨bn,0,none⟩)] w1 fun e w'=>e=.returned (.bool true)/\w'=w1)/\
     (Calls Tryz.prog 98 #[.slice ad k cap,.func (.func 55) #[] #[.pointer (some ⟨bn,0,none⟩)]] w1 fun e w'=>e=.returned (.bool true)/\Hid (sS w' w.heap.size bn code dst a b c P)/\Hid (Below w.heap.size w w'))):=by
 refine (aG4 code dst a b c _ k hk).mono fun e w1 ⟨ad,cap,he,hi,hb⟩=>⟨ad,cap,he,?_⟩
 have hx:=(sS.start code dst a b c P bn w hc).below hb.out
 have:=sE dst P bn w1 hx.2.2.2.2.2
 rw[hd] at this
 have h5:=J6 _ _ P bn w1 hi.out (by omega) hx.2.2.2.2.2
 rw[ha] at h5
 exact ⟨hx.2.1,this,h5.mono fun e w' ⟨he,hb'⟩=>⟨he,hx.below hb',eX (eX (aD w _) hb.out) hb'⟩⟩
end
end Nx
end
section
open Go.RowKit
namespace Nx
section
variable (code dst a b c P:Int) (nums bn:Nat) (w:World)
theorem Yp (hc:w.cell? ⟨bn,0,none⟩=some (.int .i64 P)) (hd:cH P dst=true) (h:a<0) :
    Calls Tryz.prog 57 #[.agg #[.int .i64 1,.int .i64 dst,.int .i64 a,.int .i64 b,.int .i64 c],.int .i64 nums,.func (.func 55) #[] #[.pointer (some ⟨bn,0,none⟩)]] w fun e w'=>e=.returned (.int .i64 (2:Int))/\Below w.heap.size w w':=by
 have hask:=dJ 1 dst a b c P bn w 0 hc hd rfl rfl (by omega)
 clear hc hd
 go_enter Tryz.func57,Tryz.ntmps57
 go_wp2_with (first|(go_at_call 13;refine hask.mono ?_;rintro e w1 ⟨ad,cap,rfl,d1,hpl,hall⟩;clear hask)|(go_at_call 55;refine hpl.mono ?_;rintro e w2 ⟨rfl,hw⟩;obtain rfl:=hw.symm)|(go_at_call 98;refine hall.mono ?_;rintro e w2 ⟨rfl,hbx,hb2⟩;obtain ⟨e0,e1,e2,e3,e4,-⟩:=hbx.out;clear d1 hpl hall))
 go_ret
 exact ⟨rfl,hb2.out⟩
theorem Yq (hc:w.cell? ⟨bn,0,none⟩=some (.int .i64 P)) (hd:cH P dst=true) (h:0≤a) (h2:(nums:Int)≤a) :
    Calls Tryz.prog 57 #[.agg #[.int .i64 1,.int .i64 dst,.int .i64 a,.int .i64 b,.int .i64 c],.int .i64 nums,.func (.func 55) #[] #[.pointer (some ⟨bn,0,none⟩)]] w fun e w'=>e=.returned (.int .i64 (2:Int))/\Below w.heap.size w w':=by
 have hask:=dJ 1 dst a b c P bn w 0 hc hd rfl rfl (by omega)
 clear hc hd
 go_enter Tryz.func57,Tryz.ntmps57
 go_wp2_with (first|(go_at_call 13;refine hask.mono ?_;rintro e w1 ⟨ad,cap,rfl,d1,hpl,hall⟩;clear hask)|(go_at_call 55;refine hpl.mono ?_;rintro e w2 ⟨rfl,hw⟩;obtain rfl:=hw.symm)|(go_at_call 98;refine hall.mono ?_;rintro e w2 ⟨rfl,hbx,hb2⟩;obtain ⟨e0,e1,e2,e3,e4,-⟩:=hbx.out;clear d1 hpl hall))
 go_ret
 exact ⟨rfl,hb2.out⟩
theorem aD5 (hc:w.cell? ⟨bn,0,none⟩=some (.int .i64 P)) (hd:cH P dst=true) (ha:(asks ⟨1,dst,a,b,c⟩).all (cH P)=true) (h0:0≤a) (hn:a<nums)  (kb:b≠0) :
    Calls Tryz.prog 57 #[.agg #[.int .i64 1,.int .i64 dst,.int .i64 a,.int .i64 b,.int .i64 c],.int .i64 nums,.func (.func 55) #[] #[.pointer (some ⟨bn,0,none⟩)]] w fun e w'=>e=.returned (.int .i64 (1:Int))/\Below w.heap.size w w':=by
 have hask:=dJ 1 dst a b c P bn w 0 hc hd ha rfl (by omega)
 have tb:(b != 0)=true:=by simpa using kb
 clear hc hd ha
 go_enter Tryz.func57,Tryz.ntmps57
 go_wp2_with (first|(go_at_call 13;refine hask.mono ?_;rintro e w1 ⟨ad,cap,rfl,d1,hpl,hall⟩;clear hask)|(go_at_call 55;refine hpl.mono ?_;rintro e w2 ⟨rfl,hw⟩;obtain rfl:=hw.symm)|(go_at_call 98;refine hall.mono ?_;rintro e w2 ⟨rfl,hbx,hb2⟩;obtain ⟨e0,e1,e2,e3,e4,-⟩:=hbx.out;clear d1 hpl hall))
 refine wp_loop_rounds 1 ?_
 rw[rounds_succ]
 go_wp2
 go_ret
 exact ⟨rfl,hb2.out.alloc hb2.out.size _⟩
theorem Yo (hc:w.cell? ⟨bn,0,none⟩=some (.int .i64 P)) (hd:cH P dst=true) (ha:(asks ⟨1,dst,a,b,c⟩).all (cH P)=true) (h0:0≤a) (hn:a<nums) (kb:b=0) (kc:c≠0) :
    Calls Tryz.prog 57 #[.agg #[.int .i64 1,.int .i64 dst,.int .i64 a,.int .i64 b,.int .i64 c],.int .i64 nums,.func (.func 55) #[] #[.pointer (some ⟨bn,0,none⟩)]] w fun e w'=>e=.returned (.int .i64 (1:Int))/\Below w.heap.size w w':=by
 have hask:=dJ 1 dst a b c P bn w 0 hc hd ha rfl (by omega)
 subst kb
 have tc:(c != 0)=true:=by simpa using kc
 clear hc hd ha
 go_enter Tryz.func57,Tryz.ntmps57
 go_wp2_with (first|(go_at_call 13;refine hask.mono ?_;rintro e w1 ⟨ad,cap,rfl,d1,hpl,hall⟩;clear hask)|(go_at_call 55;refine hpl.mono ?_;rintro e w2 ⟨rfl,hw⟩;obtain rfl:=hw.symm)|(go_at_call 98;refine hall.mono ?_;rintro e w2 ⟨rfl,hbx,hb2⟩;obtain ⟨e0,e1,e2,e3,e4,-⟩:=hbx.out;clear d1 hpl hall))
 refine wp_loop_rounds 2 ?_
 rw[rounds_succ]
 go_wp2
 rw[rounds_succ]
 go_wp2
 go_ret
 exact ⟨rfl,hb2.out.alloc hb2.out.size _⟩
theorem Yn (hc:w.cell? ⟨bn,0,none⟩=some (.int .i64 P)) (hd:cH P dst=true) (ha:(asks ⟨1,dst,a,b,c⟩).all (cH P)=true) (h0:0≤a) (hn:a<nums) (kb:b=0) (kc:c=0) :
    Calls Tryz.prog 57 #[.agg #[.int .i64 1,.int .i64 dst,.int .i64 a,.int .i64 b,.int .i64 c],.int .i64 nums,.func (.func 55) #[] #[.pointer (some ⟨bn,0,none⟩)]] w fun e w'=>e=.returned (.int .i64 (0:Int))/\Below w.heap.size w w':=by
 have hask:=dJ 1 dst a b c P bn w 0 hc hd ha rfl (by omega)
 subst kb
 subst kc
 clear hc hd ha
 go_enter Tryz.func57,Tryz.ntmps57
 go_wp2_with (first|(go_at_call 13;refine hask.mono ?_;rintro e w1 ⟨ad,cap,rfl,d1,hpl,hall⟩;clear hask)|(go_at_call 55;refine hpl.mono ?_;rintro e w2 ⟨rfl,hw⟩;obtain rfl:=hw.symm)|(go_at_call 98;refine hall.mono ?_;rintro e w2 ⟨rfl,hbx,hb2⟩;obtain ⟨e0,e1,e2,e3,e4,-⟩:=hbx.out;clear d1 hpl hall))
 refine wp_loop_rounds 3 ?_
 rw[rounds_succ]
 go_wp2
 rw[rounds_succ]
 go_wp2
 rw[rounds_succ]
 go_wp2
 go_ret
 exact ⟨rfl,hb2.out.alloc hb2.out.size _⟩
theorem aC0 (hc:w.cell? ⟨bn,0,none⟩=some (.int .i64 P)) (hd:cH P dst=true) (ha:(asks ⟨code,dst,a,b,c⟩).all (cH P)=true) (h6:6≤code) (h16:code≤16)  (kc:c≠0) :
    Calls Tryz.prog 57 #[.agg #[.int .i64 code,.int .i64 dst,.int .i64 a,.int .i64 b,.int .i64 c],.int .i64 nums,.func (.func 55) #[] #[.pointer (some ⟨bn,0,none⟩)]] w fun e w'=>e=.returned (.int .i64 (1:Int))/\Below w.heap.size w w':=by
 have t1:(code==1)=false:=by simp;omega
 have t3:(code==3)=false:=by simp;omega
 have hask:=dJ code dst a b c P bn w 2 hc hd ha (by unfold asks;rw[if_neg (by simp;omega),if_pos (by simp;omega)];rfl) (by omega)
 have tc:(c != 0)=true:=by simpa using kc
 clear hc hd ha
 go_enter Tryz.func57,Tryz.ntmps57
 go_wp2_with (first|(go_at_call 13;refine hask.mono ?_;rintro e w1 ⟨ad,cap,rfl,d1,hpl,hall⟩;clear hask)|(go_at_call 55;refine hpl.mono ?_;rintro e w2 ⟨rfl,hw⟩;obtain rfl:=hw.symm)|(go_at_call 98;refine hall.mono ?_;rintro e w2 ⟨rfl,hbx,hb2⟩;obtain ⟨e0,e1,e2,e3,e4,-⟩:=hbx.out;clear d1 hpl hall))
 refine wp_loop_rounds 1 ?_
 rw[rounds_succ]
 go_wp2
 go_ret
 exact ⟨rfl,hb2.out.alloc hb2.out.size _⟩
theorem aB9 (hc:w.cell? ⟨bn,0,none⟩=some (.int .i64 P)) (hd:cH P dst=true) (ha:(asks ⟨code,dst,a,b,c⟩).all (cH P)=true) (h6:6≤code) (h16:code≤16) (kc:c=0) :
    Calls Tryz.prog 57 #[.agg #[.int .i64 code,.int .i64 dst,.int .i64 a,.int .i64 b,.int .i64 c],.int .i64 nums,.func (.func 55) #[] #[.pointer (some ⟨bn,0,none⟩)]] w fun e w'=>e=.returned (.int .i64 (0:Int))/\Below w.heap.size w w':=by
 have t1:(code==1)=false:=by simp;omega
 have t3:(code==3)=false:=by simp;omega
 have hask:=dJ code dst a b c P bn w 2 hc hd ha (by unfold asks;rw[if_neg (by simp;omega),if_pos (by simp;omega)];rfl) (by omega)
 subst kc
 clear hc hd ha
 go_enter Tryz.func57,Tryz.ntmps57
 go_wp2_with (first|(go_at_call 13;refine hask.mono ?_;rintro e w1 ⟨ad,cap,rfl,d1,hpl,hall⟩;clear hask)|(go_at_call 55;refine hpl.mono ?_;rintro e w2 ⟨rfl,hw⟩;obtain rfl:=hw.symm)|(go_at_call 98;refine hall.mono ?_;rintro e w2 ⟨rfl,hbx,hb2⟩;obtain ⟨e0,e1,e2,e3,e4,-⟩:=hbx.out;clear d1 hpl hall))
 refine wp_loop_rounds 2 ?_
 rw[rounds_succ]
 go_wp2
 rw[rounds_succ]
 go_wp2
 go_ret
 exact ⟨rfl,hb2.out.alloc hb2.out.size _⟩
theorem aC6 (hc:w.cell? ⟨bn,0,none⟩=some (.int .i64 P)) (hd:cH P dst=true) (ha:(asks ⟨17,dst,a,b,c⟩).all (cH P)=true)   :
    Calls Tryz.prog 57 #[.agg #[.int .i64 17,.int .i64 dst,.int .i64 a,.int .i64 b,.int .i64 c],.int .i64 nums,.func (.func 55) #[] #[.pointer (some ⟨bn,0,none⟩)]] w fun e w'=>e=.returned (.int .i64 (0:Int))/\Below w.heap.size w w':=by
 have hask:=dJ 17 dst a b c P bn w 3 hc hd ha rfl (by omega)
 clear hc hd ha
 go_enter Tryz.func57,Tryz.ntmps57
 go_wp2_with (first|(go_at_call 13;refine hask.mono ?_;rintro e w1 ⟨ad,cap,rfl,d1,hpl,hall⟩;clear hask)|(go_at_call 55;refine hpl.mono ?_;rintro e w2 ⟨rfl,hw⟩;obtain rfl:=hw.symm)|(go_at_call 98;refine hall.mono ?_;rintro e w2 ⟨rfl,hbx,hb2⟩;obtain ⟨e0,e1,e2,e3,e4,-⟩:=hbx.out;clear d1 hpl hall))
 refine wp_loop_rounds 1 ?_
 rw[rounds_succ]
 go_wp2
 go_ret
 exact ⟨rfl,hb2.out.alloc hb2.out.size _⟩
end
end Nx
end
section
open Go.RowKit
namespace Nx
section
variable (dst a b c P:Int) (nums bn:Nat) (w:World)
theorem Ym (hc:w.cell? ⟨bn,0,none⟩=some (.int .i64 P)) (hd:cH P dst=true) (ha:(asks ⟨2,dst,a,b,c⟩).all (cH P)=true)   (kb:b≠0) :
    Calls Tryz.prog 57 #[.agg #[.int .i64 2,.int .i64 dst,.int .i64 a,.int .i64 b,.int .i64 c],.int .i64 nums,.func (.func 55) #[] #[.pointer (some ⟨bn,0,none⟩)]] w fun e w'=>e=.returned (.int .i64 (1:Int))/\Below w.heap.size w w':=by
 have hask:=dJ 2 dst a b c P bn w 1 hc hd ha rfl (by omega)
 have tb:(b != 0)=true:=by simpa using kb
 clear hc hd ha
 go_enter Tryz.func57,Tryz.ntmps57
 go_wp2_with (first|(go_at_call 13;refine hask.mono ?_;rintro e w1 ⟨ad,cap,rfl,d1,hpl,hall⟩;clear hask)|(go_at_call 55;refine hpl.mono ?_;rintro e w2 ⟨rfl,hw⟩;obtain rfl:=hw.symm)|(go_at_call 98;refine hall.mono ?_;rintro e w2 ⟨rfl,hbx,hb2⟩;obtain ⟨e0,e1,e2,e3,e4,-⟩:=hbx.out;clear d1 hpl hall))
 refine wp_loop_rounds 1 ?_
 rw[rounds_succ]
 go_wp2
 go_ret
 exact ⟨rfl,hb2.out.alloc hb2.out.size _⟩
theorem Ux (hc:w.cell? ⟨bn,0,none⟩=some (.int .i64 P)) (hd:cH P dst=true) (ha:(asks ⟨2,dst,a,b,c⟩).all (cH P)=true)  (kb:b=0) (kc:c≠0) :
    Calls Tryz.prog 57 #[.agg #[.int .i64 2,.int .i64 dst,.int .i64 a,.int .i64 b,.int .i64 c],.int .i64 nums,.func (.func 55) #[] #[.pointer (some ⟨bn,0,none⟩)]] w fun e w'=>e=.returned (.int .i64 (1:Int))/\Below w.heap.size w w':=by
 have hask:=dJ 2 dst a b c P bn w 1 hc hd ha rfl (by omega)
 subst kb
 have tc:(c != 0)=true:=by simpa using kc
 clear hc hd ha
 go_enter Tryz.func57,Tryz.ntmps57
 go_wp2_with (first|(go_at_call 13;refine hask.mono ?_;rintro e w1 ⟨ad,cap,rfl,d1,hpl,hall⟩;clear hask)|(go_at_call 55;refine hpl.mono ?_;rintro e w2 ⟨rfl,hw⟩;obtain rfl:=hw.symm)|(go_at_call 98;refine hall.mono ?_;rintro e w2 ⟨rfl,hbx,hb2⟩;obtain ⟨e0,e1,e2,e3,e4,-⟩:=hbx.out;clear d1 hpl hall))
 refine wp_loop_rounds 2 ?_
 rw[rounds_succ]
 go_wp2
 rw[rounds_succ]
 go_wp2
 go_ret
 exact ⟨rfl,hb2.out.alloc hb2.out.size _⟩
theorem Uw (hc:w.cell? ⟨bn,0,none⟩=some (.int .i64 P)) (hd:cH P dst=true) (ha:(asks ⟨2,dst,a,b,c⟩).all (cH P)=true)  (kb:b=0) (kc:c=0) :
    Calls Tryz.prog 57 #[.agg #[.int .i64 2,.int .i64 dst,.int .i64 a,.int .i64 b,.int .i64 c],.int .i64 nums,.func (.func 55) #[] #[.pointer (some ⟨bn,0,none⟩)]] w fun e w'=>e=.returned (.int .i64 (0:Int))/\Below w.heap.size w w':=by
 have hask:=dJ 2 dst a b c P bn w 1 hc hd ha rfl (by omega)
 subst kb
 subst kc
 clear hc hd ha
 go_enter Tryz.func57,Tryz.ntmps57
 go_wp2_with (first|(go_at_call 13;refine hask.mono ?_;rintro e w1 ⟨ad,cap,rfl,d1,hpl,hall⟩;clear hask)|(go_at_call 55;refine hpl.mono ?_;rintro e w2 ⟨rfl,hw⟩;obtain rfl:=hw.symm)|(go_at_call 98;refine hall.mono ?_;rintro e w2 ⟨rfl,hbx,hb2⟩;obtain ⟨e0,e1,e2,e3,e4,-⟩:=hbx.out;clear d1 hpl hall))
 refine wp_loop_rounds 3 ?_
 rw[rounds_succ]
 go_wp2
 rw[rounds_succ]
 go_wp2
 rw[rounds_succ]
 go_wp2
 go_ret
 exact ⟨rfl,hb2.out.alloc hb2.out.size _⟩
theorem Yl (hc:w.cell? ⟨bn,0,none⟩=some (.int .i64 P)) (hd:cH P dst=true) (ha:(asks ⟨4,dst,a,b,c⟩).all (cH P)=true)   (kb:b≠0) :
    Calls Tryz.prog 57 #[.agg #[.int .i64 4,.int .i64 dst,.int .i64 a,.int .i64 b,.int .i64 c],.int .i64 nums,.func (.func 55) #[] #[.pointer (some ⟨bn,0,none⟩)]] w fun e w'=>e=.returned (.int .i64 (1:Int))/\Below w.heap.size w w':=by
 have hask:=dJ 4 dst a b c P bn w 1 hc hd ha rfl (by omega)
 have tb:(b != 0)=true:=by simpa using kb
 clear hc hd ha
 go_enter Tryz.func57,Tryz.ntmps57
 go_wp2_with (first|(go_at_call 13;refine hask.mono ?_;rintro e w1 ⟨ad,cap,rfl,d1,hpl,hall⟩;clear hask)|(go_at_call 55;refine hpl.mono ?_;rintro e w2 ⟨rfl,hw⟩;obtain rfl:=hw.symm)|(go_at_call 98;refine hall.mono ?_;rintro e w2 ⟨rfl,hbx,hb2⟩;obtain ⟨e0,e1,e2,e3,e4,-⟩:=hbx.out;clear d1 hpl hall))
 refine wp_loop_rounds 1 ?_
 rw[rounds_succ]
 go_wp2
 go_ret
 exact ⟨rfl,hb2.out.alloc hb2.out.size _⟩
theorem Uv (hc:w.cell? ⟨bn,0,none⟩=some (.int .i64 P)) (hd:cH P dst=true) (ha:(asks ⟨4,dst,a,b,c⟩).all (cH P)=true)  (kb:b=0) (kc:c≠0) :
    Calls Tryz.prog 57 #[.agg #[.int .i64 4,.int .i64 dst,.int .i64 a,.int .i64 b,.int .i64 c],.int .i64 nums,.func (.func 55) #[] #[.pointer (some ⟨bn,0,none⟩)]] w fun e w'=>e=.returned (.int .i64 (1:Int))/\Below w.heap.size w w':=by
 have hask:=dJ 4 dst a b c P bn w 1 hc hd ha rfl (by omega)
 subst kb
 have tc:(c != 0)=true:=by simpa using kc
 clear hc hd ha
 go_enter Tryz.func57,Tryz.ntmps57
 go_wp2_with (first|(go_at_call 13;refine hask.mono ?_;rintro e w1 ⟨ad,cap,rfl,d1,hpl,hall⟩;clear hask)|(go_at_call 55;refine hpl.mono ?_;rintro e w2 ⟨rfl,hw⟩;obtain rfl:=hw.symm)|(go_at_call 98;refine hall.mono ?_;rintro e w2 ⟨rfl,hbx,hb2⟩;obtain ⟨e0,e1,e2,e3,e4,-⟩:=hbx.out;clear d1 hpl hall))
 refine wp_loop_rounds 2 ?_
 rw[rounds_succ]
 go_wp2
 rw[rounds_succ]
 go_wp2
 go_ret
 exact ⟨rfl,hb2.out.alloc hb2.out.size _⟩
theorem Uu (hc:w.cell? ⟨bn,0,none⟩=some (.int .i64 P)) (hd:cH P dst=true) (ha:(asks ⟨4,dst,a,b,c⟩).all (cH P)=true)  (kb:b=0) (kc:c=0) :
    Calls Tryz.prog 57 #[.agg #[.int .i64 4,.int .i64 dst,.int .i64 a,.int .i64 b,.int .i64 c],.int .i64 nums,.func (.func 55) #[] #[.pointer (some ⟨bn,0,none⟩)]] w fun e w'=>e=.returned (.int .i64 (0:Int))/\Below w.heap.size w w':=by
 have hask:=dJ 4 dst a b c P bn w 1 hc hd ha rfl (by omega)
 subst kb
 subst kc
 clear hc hd ha
 go_enter Tryz.func57,Tryz.ntmps57
 go_wp2_with (first|(go_at_call 13;refine hask.mono ?_;rintro e w1 ⟨ad,cap,rfl,d1,hpl,hall⟩;clear hask)|(go_at_call 55;refine hpl.mono ?_;rintro e w2 ⟨rfl,hw⟩;obtain rfl:=hw.symm)|(go_at_call 98;refine hall.mono ?_;rintro e w2 ⟨rfl,hbx,hb2⟩;obtain ⟨e0,e1,e2,e3,e4,-⟩:=hbx.out;clear d1 hpl hall))
 refine wp_loop_rounds 3 ?_
 rw[rounds_succ]
 go_wp2
 rw[rounds_succ]
 go_wp2
 rw[rounds_succ]
 go_wp2
 go_ret
 exact ⟨rfl,hb2.out.alloc hb2.out.size _⟩
theorem Yk (hc:w.cell? ⟨bn,0,none⟩=some (.int .i64 P)) (hd:cH P dst=true) (ha:(asks ⟨5,dst,a,b,c⟩).all (cH P)=true)   (kb:b≠0) :
    Calls Tryz.prog 57 #[.agg #[.int .i64 5,.int .i64 dst,.int .i64 a,.int .i64 b,.int .i64 c],.int .i64 nums,.func (.func 55) #[] #[.pointer (some ⟨bn,0,none⟩)]] w fun e w'=>e=.returned (.int .i64 (1:Int))/\Below w.heap.size w w':=by
 have hask:=dJ 5 dst a b c P bn w 1 hc hd ha rfl (by omega)
 have tb:(b != 0)=true:=by simpa using kb
 clear hc hd ha
 go_enter Tryz.func57,Tryz.ntmps57
 go_wp2_with (first|(go_at_call 13;refine hask.mono ?_;rintro e w1 ⟨ad,cap,rfl,d1,hpl,hall⟩;clear hask)|(go_at_call 55;refine hpl.mono ?_;rintro e w2 ⟨rfl,hw⟩;obtain rfl:=hw.symm)|(go_at_call 98;refine hall.mono ?_;rintro e w2 ⟨rfl,hbx,hb2⟩;obtain ⟨e0,e1,e2,e3,e4,-⟩:=hbx.out;clear d1 hpl hall))
 refine wp_loop_rounds 1 ?_
 rw[rounds_succ]
 go_wp2
 go_ret
 exact ⟨rfl,hb2.out.alloc hb2.out.size _⟩
theorem Ut (hc:w.cell? ⟨bn,0,none⟩=some (.int .i64 P)) (hd:cH P dst=true) (ha:(asks ⟨5,dst,a,b,c⟩).all (cH P)=true)  (kb:b=0) (kc:c≠0) :
    Calls Tryz.prog 57 #[.agg #[.int .i64 5,.int .i64 dst,.int .i64 a,.int .i64 b,.int .i64 c],.int .i64 nums,.func (.func 55) #[] #[.pointer (some ⟨bn,0,none⟩)]] w fun e w'=>e=.returned (.int .i64 (1:Int))/\Below w.heap.size w w':=by
 have hask:=dJ 5 dst a b c P bn w 1 hc hd ha rfl (by omega)
 subst kb
 have tc:(c != 0)=true:=by simpa using kc
 clear hc hd ha
 go_enter Tryz.func57,Tryz.ntmps57
 go_wp2_with (first|(go_at_call 13;refine hask.mono ?_;rintro e w1 ⟨ad,cap,rfl,d1,hpl,hall⟩;clear hask)|(go_at_call 55;refine hpl.mono ?_;rintro e w2 ⟨rfl,hw⟩;obtain rfl:=hw.symm)|(go_at_call 98;refine hall.mono ?_;rintro e w2 ⟨rfl,hbx,hb2⟩;obtain ⟨e0,e1,e2,e3,e4,-⟩:=hbx.out;clear d1 hpl hall))
 refine wp_loop_rounds 2 ?_
 rw[rounds_succ]
 go_wp2
 rw[rounds_succ]
 go_wp2
 go_ret
 exact ⟨rfl,hb2.out.alloc hb2.out.size _⟩
theorem Us (hc:w.cell? ⟨bn,0,none⟩=some (.int .i64 P)) (hd:cH P dst=true) (ha:(asks ⟨5,dst,a,b,c⟩).all (cH P)=true)  (kb:b=0) (kc:c=0) :
    Calls Tryz.prog 57 #[.agg #[.int .i64 5,.int .i64 dst,.int .i64 a,.int .i64 b,.int .i64 c],.int .i64 nums,.func (.func 55) #[] #[.pointer (some ⟨bn,0,none⟩)]] w fun e w'=>e=.returned (.int .i64 (0:Int))/\Below w.heap.size w w':=by
 have hask:=dJ 5 dst a b c P bn w 1 hc hd ha rfl (by omega)
 subst kb
 subst kc
 clear hc hd ha
 go_enter Tryz.func57,Tryz.ntmps57
 go_wp2_with (first|(go_at_call 13;refine hask.mono ?_;rintro e w1 ⟨ad,cap,rfl,d1,hpl,hall⟩;clear hask)|(go_at_call 55;refine hpl.mono ?_;rintro e w2 ⟨rfl,hw⟩;obtain rfl:=hw.symm)|(go_at_call 98;refine hall.mono ?_;rintro e w2 ⟨rfl,hbx,hb2⟩;obtain ⟨e0,e1,e2,e3,e4,-⟩:=hbx.out;clear d1 hpl hall))
 refine wp_loop_rounds 3 ?_
 rw[rounds_succ]
 go_wp2
 rw[rounds_succ]
 go_wp2
 rw[rounds_succ]
 go_wp2
 go_ret
 exact ⟨rfl,hb2.out.alloc hb2.out.size _⟩
end
end Nx
end
end Go.Proofs.YtcdbhoknhnimcaaGreatDoor
