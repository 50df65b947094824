import Derived.Test.YthieaobjdpfcoaaGreatDoorVNt5
set_option maxHeartbeats 1000000
namespace Go.Proofs.YthieaobjdpfcoaaGreatDoor
section
open Go.RowKit
namespace Nx
theorem tK (p P:Int) (bn:Nat) (w:World) (j:w.cell? ⟨bn,0,none⟩=some (.int .i64 P)) :
    Calls Tryz.prog 39 #[.int .i64 p,.pointer (some ⟨bn,0,none⟩)] w fun e w'=>e=.returned (.bool (cR P p))/\w'=w:=by
 by_cases h0:0≤p
 ·have E:Hid (cR P p=decide (p<P)):=by unfold Hid cR;simp[h0]
  go_enter Tryz.func39,Tryz.ntmps39
  go_wp2
  go_ret
  exact ⟨by rw[E.out];rfl,rfl⟩
 ·have E:Hid (cR P p=false):=by unfold Hid cR;simp[h0]
  have h:p<0:=by omega
  go_enter Tryz.func39,Tryz.ntmps39
  go_wp2
  go_ret
  exact ⟨by rw[E.out];rfl,rfl⟩
theorem Li (p P:Int) (bn j:Nat) (w:World) (l:w.cell? ⟨bn,0,none⟩=some (.int .i64 P)) (n:w.cell? ⟨j,0,none⟩=some (.func (.func 39) #[] #[.pointer (some ⟨bn,0,none⟩)])) :
    Calls Tryz.prog 121 #[.int .i64 p,.pointer (some ⟨j,0,none⟩)] w fun e w'=>e=.returned (.bool (!cR P p))/\w'=w:=by
 have h:=tK p P bn w l
 obtain ⟨b,hb⟩:∃b,b=cR P p:=⟨_,rfl⟩
 rw[<-hb] at h ⊢
 clear hb
 go_enter Tryz.func121,Tryz.ntmps121
 go_wp2_with (go_at_call 39;refine h.mono ?_;rintro e w' ⟨rfl,k⟩;obtain rfl:=k.symm)
 go_ret
 exact ⟨rfl,rfl⟩
theorem qQ {A:Nat->Prop}(v:Value) (zs:List Int) (P:Int) (bn D:Nat) (w:World) (h:bH A w v zs) (Q:zs.length≤100000) (Z:w.cell? ⟨bn,0,none⟩=some (.int .i64 P)) (U:w.cell? ⟨D,0,none⟩=some (.func (.func 39) #[] #[.pointer (some ⟨bn,0,none⟩)])) :
    Calls Tryz.prog 122 #[v,.func (.func 121) #[] #[.pointer (some ⟨D,0,none⟩)]] w fun e w'=>∃r:Int,e=.returned (.int .i64 r)/\decide (0≤r)=!zs.all (cR P)/\w'=w:=by
 obtain ⟨ad,b,n,cap,rfl,X,O⟩:=h
 have H1:Hid (0<zs.length->ad=some ⟨b,n,none⟩/\A b):=X
 have H2:Hid _:=O
 have hN:=fun p=>Li p P bn D w Z U
 clear X O Z U
 go_enter Tryz.func122,Tryz.ntmps122
 go_wp2
 go_loop [8] (fun i=>∃k:Nat,k≤zs.length/\i=.int .i64 k/\∀j,j<k->cR P (zs.getD j 0)=true) (fun i=>zs.length-(intOf i).toNat)
 case atStart=>exact ⟨0,aP4 _,rfl,fun j J=>by omega⟩
 case round=>
  obtain ⟨k,hk,rfl,l⟩:=hrel
  have Y:Hid _:=l
  clear l
  by_cases hlt:k<zs.length
  ·have aa:=Q7 ad b n zs.length cap k hlt (fun h=>(H1.out h).1)
   obtain ⟨x,hx⟩:∃x,x=zs.getD k 0:=⟨_,rfl⟩
   have cx:w.cell? ⟨b,n+k,none⟩=some (.int .i64 x):=by rw[hx];exact H2.out k hlt
   have HX:Hid _:=hx
   clear hx
   have s:=hN x
   cases hb:cR P x with
   | true=>
    rw[hb] at s
    have I:Hid _:=hb
    clear hb
    go_wp2_with (go_at_call 121;refine s.mono ?_;rintro e w' ⟨rfl,u⟩;obtain rfl:=u.symm)
    go_round
    case rel=>exact ⟨k+1,by omega,by go_num,fun j J=>by
     by_cases e:j=k
     ·rw[e,<-HX.out];exact I.out
     ·exact Y.out j (by omega)⟩
    case measure=>simp[intOf];omega
   | false=>
    rw[hb] at s
    have I:Hid _:=hb
    clear hb
    go_wp2_with (go_at_call 121;refine s.mono ?_;rintro e w' ⟨rfl,u⟩;obtain rfl:=u.symm)
    go_ret
    refine ⟨k,rfl,?_,rfl⟩
    have:zs.all (cR P)=false:=by
     apply Bool.eq_false_iff.2
     intro h
     have:=aX6.1 h (zs[k]) (aY1 hlt)
     have e:zs.getD k 0=zs[k]:=by simp[List.getD_eq_getElem?_getD,hlt]
     rw[<-e,<-HX.out,I.out] at this;cases this
    rw[this];simp
  ·go_wp2
   go_ret
   refine ⟨-1,rfl,?_,rfl⟩
   have:zs.all (cR P)=true:=aX6.2 fun y hy=>by
    obtain ⟨j,J,rfl⟩:=List.getElem_of_mem hy
    have:=Y.out j (by omega)
    simpa [iO,J] using this
   rw[this];rfl
theorem U0 {A:Nat->Prop}(v:Value) (zs:List Int) (P:Int) (bn k:Nat) (w:World) (h:bH A w v zs) (j:zs.length≤100000) (s:w.cell? ⟨bn,0,none⟩=some (.int .i64 P)) (l:w.cell? ⟨k,0,none⟩=some (.func (.func 39) #[] #[.pointer (some ⟨bn,0,none⟩)])) :
    Calls Tryz.prog 120 #[v,.func (.func 121) #[] #[.pointer (some ⟨k,0,none⟩)]] w fun e w'=>e=.returned (.bool (!zs.all (cR P)))/\w'=w:=by
 have y:=qQ v zs P bn k w h j s l
 clear h s l
 go_enter Tryz.func120,Tryz.ntmps120
 go_wp2_with (go_at_call 122;refine y.mono ?_;rintro e w' ⟨r,rfl,n,u⟩;obtain rfl:=u.symm;have HR:Hid _:=n;clear n)
 go_ret
 exact ⟨by rw[<-HR.out];rfl,rfl⟩
theorem X7 {A:Nat->Prop}(v:Value) (zs:List Int) (P:Int) (bn:Nat) (w:World) (h:bH A w v zs) (l:zs.length≤100000) (r:w.cell? ⟨bn,0,none⟩=some (.int .i64 P)) :
    Calls Tryz.prog 73 #[v,.func (.func 39) #[] #[.pointer (some ⟨bn,0,none⟩)]] w fun e w'=>e=.returned (.bool (zs.all (cR P)))/\Below w.heap.size w w':=by
 have j:=U0 v zs P bn w.heap.size (w.alloc (.cells #[.func (.func 39) #[] #[.pointer (some ⟨bn,0,none⟩)]] 85)) (h.carry fun b u y=>⟨u,Below.heap_alloc _ _ _ y⟩) l (bG (aE w _) r) (by simp)
 obtain ⟨n,k⟩:∃n,n=zs.all (cR P):=⟨_,rfl⟩
 rw[<-k] at j ⊢
 clear h r k
 go_enter Tryz.func73,Tryz.ntmps73
 go_wp2_with (go_at_call 120;refine j.mono ?_;rintro e w' ⟨rfl,s⟩;obtain rfl:=s.symm)
 go_ret
 refine ⟨?_,aE w _⟩
 cases n<;>rfl
theorem aL7 (w:World) (a:Int):bH (fun b=>w.heap.size≤b) (w.alloc (.cells #[.int .i64 a] 3)) (.slice (some ⟨w.heap.size,0,none⟩) 1 1) [a]:=
 ⟨_,w.heap.size,0,1,rfl,fun _=>⟨rfl,aN4 _⟩,fun k hk=>by
  match k,hk with
  | 0,_=>simp⟩
theorem aL6 (w:World) (a b:Int):bH (fun b=>w.heap.size≤b) (w.alloc (.cells #[.int .i64 a,.int .i64 b] 3)) (.slice (some ⟨w.heap.size,0,none⟩) 2 2) [a,b]:=
 ⟨_,w.heap.size,0,2,rfl,fun _=>⟨rfl,aN4 _⟩,fun k hk=>by
  match k,hk with
  | 0,_=>simp
  | 1,_=>simp⟩
theorem aL5 (w:World) (a b c:Int):bH (fun b=>w.heap.size≤b) (w.alloc (.cells #[.int .i64 a,.int .i64 b,.int .i64 c] 3)) (.slice (some ⟨w.heap.size,0,none⟩) 3 3) [a,b,c]:=
 ⟨_,w.heap.size,0,3,rfl,fun _=>⟨rfl,aN4 _⟩,fun k hk=>by
  match k,hk with
  | 0,_=>simp
  | 1,_=>simp
  | 2,_=>simp⟩
theorem nI (code dst a b c:Int) (w:World) :
    Calls Tryz.prog 11 #[.agg #[.int .i64 code,.int .i64 dst,.int .i64 a,.int .i64 b,.int .i64 c]] w fun e w'=>∃v,e=.returned v/\bH (fun b=>w.heap.size≤b) w' v (asks ⟨code,dst,a,b,c⟩)/\Below w.heap.size w w':=by
 have j:=fun o=>aE w o
 by_cases h1:code=2\/code=4\/code=5
 ·have E:Hid (asks ⟨code,dst,a,b,c⟩=[a]):=by unfold Hid asks;rw[if_pos h1]
  rcases h1 with rfl|rfl|rfl
  all_goals
   go_enter Tryz.func11,Tryz.ntmps11
   go_wp2
   go_ret
   refine ⟨_,rfl,?_,iF (j _) (aE _ _)⟩
   rw[E.out]
   obtain ⟨D,s,l,cap,e,r,y⟩:=aL7 (w.alloc (.cells #[.int .i64 _,.int .i64 dst,.int .i64 a,.int .i64 b,.int .i64 c] 38)) a
   refine ⟨D,s,l,cap,?_,fun n=>⟨(r n).1,aO4 (j _).size (r n).2⟩,y⟩
   rw[<-e];simp
 ·by_cases h2:6≤code/\code≤16
  ·have E:Hid (asks ⟨code,dst,a,b,c⟩=[a,b]):=by unfold Hid asks;rw[if_neg h1,if_pos h2]
   obtain ⟨u,Y⟩:=h2
   clear h1
   have O:(code==2)=false:=by simp;omega
   have Q:(code==4)=false:=by simp;omega
   have X:(code==5)=false:=by simp;omega
   go_enter Tryz.func11,Tryz.ntmps11
   go_wp2
   go_ret
   refine ⟨_,rfl,?_,iF (j _) (aE _ _)⟩
   rw[E.out]
   obtain ⟨D,s,l,cap,e,r,y⟩:=aL6 (w.alloc (.cells #[.int .i64 code,.int .i64 dst,.int .i64 a,.int .i64 b,.int .i64 c] 38)) a b
   refine ⟨D,s,l,cap,?_,fun n=>⟨(r n).1,aO4 (j _).size (r n).2⟩,y⟩
   rw[<-e];simp
  ·by_cases u:code=17
   ·have E:Hid (asks ⟨code,dst,a,b,c⟩=[a,b,c]):=by unfold Hid asks;rw[if_neg h1,if_neg h2,if_pos u]
    subst u
    clear h1 h2
    go_enter Tryz.func11,Tryz.ntmps11
    go_wp2
    go_ret
    refine ⟨_,rfl,?_,iF (j _) (aE _ _)⟩
    rw[E.out]
    obtain ⟨D,s,l,cap,e,r,y⟩:=aL5 (w.alloc (.cells #[.int .i64 17,.int .i64 dst,.int .i64 a,.int .i64 b,.int .i64 c] 38)) a b c
    refine ⟨D,s,l,cap,?_,fun n=>⟨(r n).1,aO4 (j _).size (r n).2⟩,y⟩
    rw[<-e];simp
   ·have E:Hid (asks ⟨code,dst,a,b,c⟩=[]):=by unfold Hid asks;rw[if_neg h1,if_neg h2,if_neg u]
    have O:(code==2)=false:=by simp;omega
    have Q:(code==4)=false:=by simp;omega
    have X:(code==5)=false:=by simp;omega
    have U:(code==17)=false:=by simp;omega
    clear h1 u
    by_cases h6:6≤code
    ·have J:16<code:=by omega
     clear h2
     go_enter Tryz.func11,Tryz.ntmps11
     go_wp2
     go_ret
     exact ⟨_,rfl,by rw[E.out];exact ⟨none,0,0,0,rfl,fun h=>by simp at h,fun k I=>by simp at I⟩,j _⟩
    ·have J:code<6:=by omega
     clear h2
     go_enter Tryz.func11,Tryz.ntmps11
     go_wp2
     go_ret
     exact ⟨_,rfl,by rw[E.out];exact ⟨none,0,0,0,rfl,fun h=>by simp at h,fun k I=>by simp at I⟩,j _⟩
theorem aM6 (code dst a b c:Int) (w:World) (k:Nat) (j:(asks ⟨code,dst,a,b,c⟩).length=k) :
    Calls Tryz.prog 11 #[.agg #[.int .i64 code,.int .i64 dst,.int .i64 a,.int .i64 b,.int .i64 c]] w fun e w'=>∃ad cap,e=.returned (.slice ad k cap)/\Hid (bH (fun b=>w.heap.size≤b) w' (.slice ad k cap) (asks ⟨code,dst,a,b,c⟩))/\Hid (Below w.heap.size w w'):=by
 subst j
 refine (nI code dst a b c w).mono fun e w' ⟨v,he,hi,hb⟩=>?_
 obtain ⟨ad,r,h,cap,rfl,n,l⟩:=hi
 exact ⟨ad,cap,he,⟨ad,r,h,cap,rfl,n,l⟩,hb⟩
section
variable (code dst a b c P:Int) (nums bn:Nat) (w:World)
def uB (w1:World) (q bn:Nat) (code dst a b c P:Int):Prop:=
 w1.cell? ⟨q,0,none⟩=some (.int .i64 code)/\w1.cell? ⟨q,1,none⟩=some (.int .i64 dst)/\w1.cell? ⟨q,2,none⟩=some (.int .i64 a)/\w1.cell? ⟨q,3,none⟩=some (.int .i64 b)/\w1.cell? ⟨q,4,none⟩=some (.int .i64 c)/\w1.cell? ⟨bn,0,none⟩=some (.int .i64 P)
theorem uB.below {w1 w2:World}{q bn:Nat}{code dst a b c P:Int}(h:uB w1 q bn code dst a b c P) (hb:Below w1.heap.size w1 w2):uB w2 q bn code dst a b c P:=
 ⟨bG hb h.1,bG hb h.2.1,bG hb h.2.2.1,bG hb h.2.2.2.1,bG hb h.2.2.2.2.1,bG hb h.2.2.2.2.2⟩
theorem uB.start (hc:w.cell? ⟨bn,0,none⟩=some (.int .i64 P)):uB (w.alloc (.cells #[.int .i64 code,.int .i64 dst,.int .i64 a,.int .i64 b,.int .i64 c] 38)) w.heap.size bn code dst a b c P:=
 ⟨by simp,by simp,by simp,by simp,by simp,bG (aE w _) hc⟩
theorem Kb (h:code<1\/17<code\/code=3) :
    Calls Tryz.prog 41 #[.agg #[.int .i64 code,.int .i64 dst,.int .i64 a,.int .i64 b,.int .i64 c],.int .i64 nums,.func (.func 39) #[] #[.pointer (some ⟨bn,0,none⟩)]] w fun e w'=>e=.returned (.int .i64 3)/\Below w.heap.size w w':=by
 have j:=fun o=>aE w o
 by_cases h1:code<1
 ·go_enter Tryz.func41,Tryz.ntmps41
  go_wp2
  go_ret
  exact ⟨rfl,j _⟩
 ·by_cases h2:17<code
  ·have k:1≤code:=by omega
   go_enter Tryz.func41,Tryz.ntmps41
   go_wp2
   go_ret
   exact ⟨rfl,j _⟩
  ·obtain rfl:code=3:=by omega
   go_enter Tryz.func41,Tryz.ntmps41
   go_wp2
   go_ret
   exact ⟨rfl,j _⟩
theorem Pb (r:w.cell? ⟨bn,0,none⟩=some (.int .i64 P)) (O:1≤code) (I:code≤17) (n:code≠3) (hd:cR P dst=false) :
    Calls Tryz.prog 41 #[.agg #[.int .i64 code,.int .i64 dst,.int .i64 a,.int .i64 b,.int .i64 c],.int .i64 nums,.func (.func 39) #[] #[.pointer (some ⟨bn,0,none⟩)]] w fun e w'=>e=.returned (.int .i64 2)/\Below w.heap.size w w':=by
 have D:(code==3)=false:=by simpa using n
 have y:Hid (∀w1,Below (w.alloc (.cells #[.int .i64 code,.int .i64 dst,.int .i64 a,.int .i64 b,.int .i64 c] 38)).heap.size (w.alloc (.cells #[.int .i64 code,.int .i64 dst,.int .i64 a,.int .i64 b,.int .i64 c] 38)) w1->w1.cell? ⟨w.heap.size,1,none⟩=some (.int .i64 dst)/\(Calls Tryz.prog 39 #[.int .i64 dst,.pointer (some ⟨bn,0,none⟩)] w1 fun e w'=>e=.returned (.bool false)/\w'=w1)/\Hid (Below w.heap.size w w1)):=fun w1 hb=>by
  have hx:=(uB.start code dst a b c P bn w r).below hb
  have:=tK dst P bn w1 hx.2.2.2.2.2
  rw[hd] at this
  exact ⟨hx.2.1,this,iF (aE w _) hb⟩
 have h:=nI code dst a b c (w.alloc (.cells #[.int .i64 code,.int .i64 dst,.int .i64 a,.int .i64 b,.int .i64 c] 38))
 clear r hd n
 go_enter Tryz.func41,Tryz.ntmps41
 go_wp2_with (first|(go_at_call 11;refine h.mono ?_;rintro e w1 ⟨v,rfl,u,j⟩;obtain ⟨J,k,l⟩:=y.out w1 j;clear u j h)|(go_at_call 39;refine k.mono ?_;rintro e w2 ⟨rfl,s⟩;obtain rfl:=s.symm))
 go_ret
 exact ⟨rfl,l.out⟩
theorem Kc (J:w.cell? ⟨bn,0,none⟩=some (.int .i64 P)) (h1:1≤code) (Y:code≤17) (u:code≠3) (hd:cR P dst=true) (D:(asks ⟨code,dst,a,b,c⟩).all (cR P)=false) :
    Calls Tryz.prog 41 #[.agg #[.int .i64 code,.int .i64 dst,.int .i64 a,.int .i64 b,.int .i64 c],.int .i64 nums,.func (.func 39) #[] #[.pointer (some ⟨bn,0,none⟩)]] w fun e w'=>e=.returned (.int .i64 2)/\Below w.heap.size w w':=by
 have X:(code==3)=false:=by simpa using u
 have s:(asks ⟨code,dst,a,b,c⟩).length≤100000:=by unfold asks;split<;>(try split)<;>(try split)<;>simp
 have U:Hid (∀w1 v,bH (fun y=>(w.alloc (.cells #[.int .i64 code,.int .i64 dst,.int .i64 a,.int .i64 b,.int .i64 c] 38)).heap.size≤y) w1 v (asks ⟨code,dst,a,b,c⟩)->Below (w.alloc (.cells #[.int .i64 code,.int .i64 dst,.int .i64 a,.int .i64 b,.int .i64 c] 38)).heap.size (w.alloc (.cells #[.int .i64 code,.int .i64 dst,.int .i64 a,.int .i64 b,.int .i64 c] 38)) w1->w1.cell? ⟨w.heap.size,1,none⟩=some (.int .i64 dst)/\(Calls Tryz.prog 39 #[.int .i64 dst,.pointer (some ⟨bn,0,none⟩)] w1 fun e w'=>e=.returned (.bool true)/\w'=w1)/\
     (Calls Tryz.prog 73 #[v,.func (.func 39) #[] #[.pointer (some ⟨bn,0,none⟩)]] w1 fun e w'=>e=.returned (.bool false)/\Below w.heap.size w w')):=fun w1 v Q hb=>by
  have hx:=(uB.start code dst a b c P bn w J).below hb
  have:=tK dst P bn w1 hx.2.2.2.2.2
  rw[hd] at this
  have I:=X7 v _ P bn w1 Q s hx.2.2.2.2.2
  rw[D] at I
  exact ⟨hx.2.1,this,I.mono fun e w' ⟨he,hb'⟩=>⟨he,iF (iF (aE w _) hb) hb'⟩⟩
 have h:=nI code dst a b c (w.alloc (.cells #[.int .i64 code,.int .i64 dst,.int .i64 a,.int .i64 b,.int .i64 c] 38))
 clear J hd u D s
 go_enter Tryz.func41,Tryz.ntmps41
 go_wp2_with (first|(go_at_call 11;refine h.mono ?_;rintro e w1 ⟨v,rfl,r,k⟩;obtain ⟨Z,l,j⟩:=U.out w1 v r k;clear r k h)|(go_at_call 39;refine l.mono ?_;rintro e w2 ⟨rfl,O⟩;obtain rfl:=O.symm)|(go_at_call 73;refine j.mono ?_;rintro e w2 ⟨rfl,n⟩))
 go_ret
 exact ⟨rfl,n⟩
theorem dK (k:Nat) (r:w.cell? ⟨bn,0,none⟩=some (.int .i64 P)) (hd:cR P dst=true) (l:(asks ⟨code,dst,a,b,c⟩).all (cR P)=true) (j:(asks ⟨code,dst,a,b,c⟩).length=k) (n:k≤3) :
    (Calls Tryz.prog 11 #[.agg #[.int .i64 code,.int .i64 dst,.int .i64 a,.int .i64 b,.int .i64 c]] (w.alloc (.cells #[.int .i64 code,.int .i64 dst,.int .i64 a,.int .i64 b,.int .i64 c] 38)) fun e w1=>∃ad cap,e=.returned (.slice ad k cap)/\w1.cell? ⟨w.heap.size,1,none⟩=some (.int .i64 dst)/\(Calls Tryz.prog 39 #[.int .i64 dst,.pointer (some ⟨bn,0,none⟩)] w1 fun e w'=>e=.returned (.bool true)/\w'=w1)/\
     (Calls Tryz.prog 73 #[.slice ad k cap,.func (.func 39) #[] #[.pointer (some ⟨bn,0,none⟩)]] w1 fun e w'=>e=.returned (.bool true)/\Hid (uB w' w.heap.size bn code dst a b c P)/\Hid (Below w.heap.size w w'))):=by
 refine (aM6 code dst a b c _ k j).mono fun e w1 ⟨ad,cap,he,hi,hb⟩=>⟨ad,cap,he,?_⟩
 have hx:=(uB.start code dst a b c P bn w r).below hb.out
 have:=tK dst P bn w1 hx.2.2.2.2.2
 rw[hd] at this
 have h:=X7 _ _ P bn w1 hi.out (by omega) hx.2.2.2.2.2
 rw[l] at h
 exact ⟨hx.2.1,this,h.mono fun e w' ⟨he,hb'⟩=>⟨he,hx.below hb',iF (iF (aE w _) hb.out) hb'⟩⟩
end
section
variable (code dst a b c P:Int) (nums bn:Nat) (w:World)
theorem aC6 (s:w.cell? ⟨bn,0,none⟩=some (.int .i64 P)) (hd:cR P dst=true) (h:a<0) :
    Calls Tryz.prog 41 #[.agg #[.int .i64 1,.int .i64 dst,.int .i64 a,.int .i64 b,.int .i64 c],.int .i64 nums,.func (.func 39) #[] #[.pointer (some ⟨bn,0,none⟩)]] w fun e w'=>e=.returned (.int .i64 (2:Int))/\Below w.heap.size w w':=by
 have j:=dK 1 dst a b c P bn w 0 s hd rfl rfl (by omega)
 clear s hd
 go_enter Tryz.func41,Tryz.ntmps41
 go_wp2_with (first|(go_at_call 11;refine j.mono ?_;rintro e w1 ⟨U,cap,rfl,y,l,k⟩;clear j)|(go_at_call 39;refine l.mono ?_;rintro e w2 ⟨rfl,u⟩;obtain rfl:=u.symm)|(go_at_call 73;refine k.mono ?_;rintro e w2 ⟨rfl,r,n⟩;obtain ⟨D,I,Q,J,O,-⟩:=r.out;clear y l k))
 go_ret
 exact ⟨rfl,n.out⟩
theorem aC7 (s:w.cell? ⟨bn,0,none⟩=some (.int .i64 P)) (hd:cR P dst=true) (h:0≤a) (I:(nums:Int)≤a) :
    Calls Tryz.prog 41 #[.agg #[.int .i64 1,.int .i64 dst,.int .i64 a,.int .i64 b,.int .i64 c],.int .i64 nums,.func (.func 39) #[] #[.pointer (some ⟨bn,0,none⟩)]] w fun e w'=>e=.returned (.int .i64 (2:Int))/\Below w.heap.size w w':=by
 have j:=dK 1 dst a b c P bn w 0 s hd rfl rfl (by omega)
 clear s hd
 go_enter Tryz.func41,Tryz.ntmps41
 go_wp2_with (first|(go_at_call 11;refine j.mono ?_;rintro e w1 ⟨X,cap,rfl,y,l,k⟩;clear j)|(go_at_call 39;refine l.mono ?_;rintro e w2 ⟨rfl,u⟩;obtain rfl:=u.symm)|(go_at_call 73;refine k.mono ?_;rintro e w2 ⟨rfl,r,n⟩;obtain ⟨D,J,U,O,Q,-⟩:=r.out;clear y l k))
 go_ret
 exact ⟨rfl,n.out⟩
theorem aJ9 (s:w.cell? ⟨bn,0,none⟩=some (.int .i64 P)) (hd:cR P dst=true) (r:(asks ⟨1,dst,a,b,c⟩).all (cR P)=true) (I:0≤a) (J:a<nums)  (kb:b≠0) :
    Calls Tryz.prog 41 #[.agg #[.int .i64 1,.int .i64 dst,.int .i64 a,.int .i64 b,.int .i64 c],.int .i64 nums,.func (.func 39) #[] #[.pointer (some ⟨bn,0,none⟩)]] w fun e w'=>e=.returned (.int .i64 (1:Int))/\Below w.heap.size w w':=by
 have h:=dK 1 dst a b c P bn w 0 s hd r rfl (by omega)
 have tb:(b != 0)=true:=by simpa using kb
 clear s hd r
 go_enter Tryz.func41,Tryz.ntmps41
 go_wp2_with (first|(go_at_call 11;refine h.mono ?_;rintro e w1 ⟨Y,cap,rfl,y,k,j⟩;clear h)|(go_at_call 39;refine k.mono ?_;rintro e w2 ⟨rfl,u⟩;obtain rfl:=u.symm)|(go_at_call 73;refine j.mono ?_;rintro e w2 ⟨rfl,n,l⟩;obtain ⟨D,O,X,Q,U,-⟩:=n.out;clear y k j))
 refine wp_loop_rounds 1 ?_
 rw[rounds_succ]
 go_wp2
 go_ret
 exact ⟨rfl,l.out.alloc l.out.size _⟩
theorem aC4 (s:w.cell? ⟨bn,0,none⟩=some (.int .i64 P)) (hd:cR P dst=true) (r:(asks ⟨1,dst,a,b,c⟩).all (cR P)=true) (J:0≤a) (O:a<nums) (kb:b=0) (y:c≠0) :
    Calls Tryz.prog 41 #[.agg #[.int .i64 1,.int .i64 dst,.int .i64 a,.int .i64 b,.int .i64 c],.int .i64 nums,.func (.func 39) #[] #[.pointer (some ⟨bn,0,none⟩)]] w fun e w'=>e=.returned (.int .i64 (1:Int))/\Below w.heap.size w w':=by
 have h:=dK 1 dst a b c P bn w 0 s hd r rfl (by omega)
 subst kb
 have Q:(c != 0)=true:=by simpa using y
 clear s hd r
 go_enter Tryz.func41,Tryz.ntmps41
 go_wp2_with (first|(go_at_call 11;refine h.mono ?_;rintro e w1 ⟨ad,cap,rfl,D,k,j⟩;clear h)|(go_at_call 39;refine k.mono ?_;rintro e w2 ⟨rfl,u⟩;obtain rfl:=u.symm)|(go_at_call 73;refine j.mono ?_;rintro e w2 ⟨rfl,n,l⟩;obtain ⟨I,U,Z,X,Y,-⟩:=n.out;clear D k j))
 refine wp_loop_rounds 2 ?_
 rw[rounds_succ]
 go_wp2
 rw[rounds_succ]
 go_wp2
 go_ret
 exact ⟨rfl,l.out.alloc l.out.size _⟩
theorem aC3 (s:w.cell? ⟨bn,0,none⟩=some (.int .i64 P)) (hd:cR P dst=true) (r:(asks ⟨1,dst,a,b,c⟩).all (cR P)=true) (J:0≤a) (O:a<nums) (kb:b=0) (y:c=0) :
    Calls Tryz.prog 41 #[.agg #[.int .i64 1,.int .i64 dst,.int .i64 a,.int .i64 b,.int .i64 c],.int .i64 nums,.func (.func 39) #[] #[.pointer (some ⟨bn,0,none⟩)]] w fun e w'=>e=.returned (.int .i64 (0:Int))/\Below w.heap.size w w':=by
 have h:=dK 1 dst a b c P bn w 0 s hd r rfl (by omega)
 subst kb
 subst y
 clear s hd r
 go_enter Tryz.func41,Tryz.ntmps41
 go_wp2_with (first|(go_at_call 11;refine h.mono ?_;rintro e w1 ⟨Z,cap,rfl,D,k,j⟩;clear h)|(go_at_call 39;refine k.mono ?_;rintro e w2 ⟨rfl,u⟩;obtain rfl:=u.symm)|(go_at_call 73;refine j.mono ?_;rintro e w2 ⟨rfl,n,l⟩;obtain ⟨I,Q,Y,U,X,-⟩:=n.out;clear D k j))
 refine wp_loop_rounds 3 ?_
 rw[rounds_succ]
 go_wp2
 rw[rounds_succ]
 go_wp2
 rw[rounds_succ]
 go_wp2
 go_ret
 exact ⟨rfl,l.out.alloc l.out.size _⟩
theorem aI5 (s:w.cell? ⟨bn,0,none⟩=some (.int .i64 P)) (hd:cR P dst=true) (r:(asks ⟨code,dst,a,b,c⟩).all (cR P)=true) (X:6≤code) (I:code≤16)  (y:c≠0) :
    Calls Tryz.prog 41 #[.agg #[.int .i64 code,.int .i64 dst,.int .i64 a,.int .i64 b,.int .i64 c],.int .i64 nums,.func (.func 39) #[] #[.pointer (some ⟨bn,0,none⟩)]] w fun e w'=>e=.returned (.int .i64 (1:Int))/\Below w.heap.size w w':=by
 have Q:(code==1)=false:=by simp;omega
 have J:(code==3)=false:=by simp;omega
 have h:=dK code dst a b c P bn w 2 s hd r (by unfold asks;rw[if_neg (by simp;omega),if_pos (by simp;omega)];rfl) (by omega)
 have U:(c != 0)=true:=by simpa using y
 clear s hd r
 go_enter Tryz.func41,Tryz.ntmps41
 go_wp2_with (first|(go_at_call 11;refine h.mono ?_;rintro e w1 ⟨ad,cap,rfl,D,k,j⟩;clear h)|(go_at_call 39;refine k.mono ?_;rintro e w2 ⟨rfl,u⟩;obtain rfl:=u.symm)|(go_at_call 73;refine j.mono ?_;rintro e w2 ⟨rfl,n,l⟩;obtain ⟨O,Y,e2,Z,e4,-⟩:=n.out;clear D k j))
 refine wp_loop_rounds 1 ?_
 rw[rounds_succ]
 go_wp2
 go_ret
 exact ⟨rfl,l.out.alloc l.out.size _⟩
theorem aI3 (s:w.cell? ⟨bn,0,none⟩=some (.int .i64 P)) (hd:cR P dst=true) (r:(asks ⟨code,dst,a,b,c⟩).all (cR P)=true) (U:6≤code) (I:code≤16) (y:c=0) :
    Calls Tryz.prog 41 #[.agg #[.int .i64 code,.int .i64 dst,.int .i64 a,.int .i64 b,.int .i64 c],.int .i64 nums,.func (.func 39) #[] #[.pointer (some ⟨bn,0,none⟩)]] w fun e w'=>e=.returned (.int .i64 (0:Int))/\Below w.heap.size w w':=by
 have Q:(code==1)=false:=by simp;omega
 have J:(code==3)=false:=by simp;omega
 have h:=dK code dst a b c P bn w 2 s hd r (by unfold asks;rw[if_neg (by simp;omega),if_pos (by simp;omega)];rfl) (by omega)
 subst y
 clear s hd r
 go_enter Tryz.func41,Tryz.ntmps41
 go_wp2_with (first|(go_at_call 11;refine h.mono ?_;rintro e w1 ⟨ad,cap,rfl,D,k,j⟩;clear h)|(go_at_call 39;refine k.mono ?_;rintro e w2 ⟨rfl,u⟩;obtain rfl:=u.symm)|(go_at_call 73;refine j.mono ?_;rintro e w2 ⟨rfl,n,l⟩;obtain ⟨O,X,e2,Y,Z,-⟩:=n.out;clear D k j))
 refine wp_loop_rounds 2 ?_
 rw[rounds_succ]
 go_wp2
 rw[rounds_succ]
 go_wp2
 go_ret
 exact ⟨rfl,l.out.alloc l.out.size _⟩
theorem aJ0 (s:w.cell? ⟨bn,0,none⟩=some (.int .i64 P)) (hd:cR P dst=true) (r:(asks ⟨17,dst,a,b,c⟩).all (cR P)=true)   :
    Calls Tryz.prog 41 #[.agg #[.int .i64 17,.int .i64 dst,.int .i64 a,.int .i64 b,.int .i64 c],.int .i64 nums,.func (.func 39) #[] #[.pointer (some ⟨bn,0,none⟩)]] w fun e w'=>e=.returned (.int .i64 (0:Int))/\Below w.heap.size w w':=by
 have h:=dK 17 dst a b c P bn w 3 s hd r rfl (by omega)
 clear s hd r
 go_enter Tryz.func41,Tryz.ntmps41
 go_wp2_with (first|(go_at_call 11;refine h.mono ?_;rintro e w1 ⟨U,cap,rfl,y,k,j⟩;clear h)|(go_at_call 39;refine k.mono ?_;rintro e w2 ⟨rfl,u⟩;obtain rfl:=u.symm)|(go_at_call 73;refine j.mono ?_;rintro e w2 ⟨rfl,n,l⟩;obtain ⟨D,I,Q,J,O,-⟩:=n.out;clear y k j))
 refine wp_loop_rounds 1 ?_
 rw[rounds_succ]
 go_wp2
 go_ret
 exact ⟨rfl,l.out.alloc l.out.size _⟩
end
section
variable (dst a b c P:Int) (nums bn:Nat) (w:World)
theorem aC2 (s:w.cell? ⟨bn,0,none⟩=some (.int .i64 P)) (hd:cR P dst=true) (r:(asks ⟨2,dst,a,b,c⟩).all (cR P)=true)   (kb:b≠0) :
    Calls Tryz.prog 41 #[.agg #[.int .i64 2,.int .i64 dst,.int .i64 a,.int .i64 b,.int .i64 c],.int .i64 nums,.func (.func 39) #[] #[.pointer (some ⟨bn,0,none⟩)]] w fun e w'=>e=.returned (.int .i64 (1:Int))/\Below w.heap.size w w':=by
 have h:=dK 2 dst a b c P bn w 1 s hd r rfl (by omega)
 have tb:(b != 0)=true:=by simpa using kb
 clear s hd r
 go_enter Tryz.func41,Tryz.ntmps41
 go_wp2_with (first|(go_at_call 11;refine h.mono ?_;rintro e w1 ⟨U,cap,rfl,y,k,j⟩;clear h)|(go_at_call 39;refine k.mono ?_;rintro e w2 ⟨rfl,u⟩;obtain rfl:=u.symm)|(go_at_call 73;refine j.mono ?_;rintro e w2 ⟨rfl,n,l⟩;obtain ⟨D,I,Q,J,O,-⟩:=n.out;clear y k j))
 refine wp_loop_rounds 1 ?_
 rw[rounds_succ]
 go_wp2
 go_ret
 exact ⟨rfl,l.out.alloc l.out.size _⟩
theorem Xg (s:w.cell? ⟨bn,0,none⟩=some (.int .i64 P)) (hd:cR P dst=true) (r:(asks ⟨2,dst,a,b,c⟩).all (cR P)=true)  (kb:b=0) (y:c≠0) :
    Calls Tryz.prog 41 #[.agg #[.int .i64 2,.int .i64 dst,.int .i64 a,.int .i64 b,.int .i64 c],.int .i64 nums,.func (.func 39) #[] #[.pointer (some ⟨bn,0,none⟩)]] w fun e w'=>e=.returned (.int .i64 (1:Int))/\Below w.heap.size w w':=by
 have h:=dK 2 dst a b c P bn w 1 s hd r rfl (by omega)
 subst kb
 have J:(c != 0)=true:=by simpa using y
 clear s hd r
 go_enter Tryz.func41,Tryz.ntmps41
 go_wp2_with (first|(go_at_call 11;refine h.mono ?_;rintro e w1 ⟨Y,cap,rfl,D,k,j⟩;clear h)|(go_at_call 39;refine k.mono ?_;rintro e w2 ⟨rfl,u⟩;obtain rfl:=u.symm)|(go_at_call 73;refine j.mono ?_;rintro e w2 ⟨rfl,n,l⟩;obtain ⟨I,O,X,Q,U,-⟩:=n.out;clear D k j))
 refine wp_loop_rounds 2 ?_
 rw[rounds_succ]
 go_wp2
 rw[rounds_succ]
 go_wp2
 go_ret
 exact ⟨rfl,l.out.alloc l.out.size _⟩
theorem Xf (s:w.cell? ⟨bn,0,none⟩=some (.int .i64 P)) (hd:cR P dst=true) (r:(asks ⟨2,dst,a,b,c⟩).all (cR P)=true)  (kb:b=0) (y:c=0) :
    Calls Tryz.prog 41 #[.agg #[.int .i64 2,.int .i64 dst,.int .i64 a,.int .i64 b,.int .i64 c],.int .i64 nums,.func (.func 39) #[] #[.pointer (some ⟨bn,0,none⟩)]] w fun e w'=>e=.returned (.int .i64 (0:Int))/\Below w.heap.size w w':=by
 have h:=dK 2 dst a b c P bn w 1 s hd r rfl (by omega)
 subst kb
 subst y
 clear s hd r
 go_enter Tryz.func41,Tryz.ntmps41
 go_wp2_with (first|(go_at_call 11;refine h.mono ?_;rintro e w1 ⟨X,cap,rfl,D,k,j⟩;clear h)|(go_at_call 39;refine k.mono ?_;rintro e w2 ⟨rfl,u⟩;obtain rfl:=u.symm)|(go_at_call 73;refine j.mono ?_;rintro e w2 ⟨rfl,n,l⟩;obtain ⟨I,J,U,O,Q,-⟩:=n.out;clear D k j))
 refine wp_loop_rounds 3 ?_
 rw[rounds_succ]
 go_wp2
 rw[rounds_succ]
 go_wp2
 rw[rounds_succ]
 go_wp2
 go_ret
 exact ⟨rfl,l.out.alloc l.out.size _⟩
theorem aC1 (s:w.cell? ⟨bn,0,none⟩=some (.int .i64 P)) (hd:cR P dst=true) (r:(asks ⟨4,dst,a,b,c⟩).all (cR P)=true)   (kb:b≠0) :
    Calls Tryz.prog 41 #[.agg #[.int .i64 4,.int .i64 dst,.int .i64 a,.int .i64 b,.int .i64 c],.int .i64 nums,.func (.func 39) #[] #[.pointer (some ⟨bn,0,none⟩)]] w fun e w'=>e=.returned (.int .i64 (1:Int))/\Below w.heap.size w w':=by
 have h:=dK 4 dst a b c P bn w 1 s hd r rfl (by omega)
 have tb:(b != 0)=true:=by simpa using kb
 clear s hd r
 go_enter Tryz.func41,Tryz.ntmps41
 go_wp2_with (first|(go_at_call 11;refine h.mono ?_;rintro e w1 ⟨U,cap,rfl,y,k,j⟩;clear h)|(go_at_call 39;refine k.mono ?_;rintro e w2 ⟨rfl,u⟩;obtain rfl:=u.symm)|(go_at_call 73;refine j.mono ?_;rintro e w2 ⟨rfl,n,l⟩;obtain ⟨D,I,Q,J,O,-⟩:=n.out;clear y k j))
 refine wp_loop_rounds 1 ?_
 rw[rounds_succ]
 go_wp2
 go_ret
 exact ⟨rfl,l.out.alloc l.out.size _⟩
theorem Xe (s:w.cell? ⟨bn,0,none⟩=some (.int .i64 P)) (hd:cR P dst=true) (r:(asks ⟨4,dst,a,b,c⟩).all (cR P)=true)  (kb:b=0) (y:c≠0) :
    Calls Tryz.prog 41 #[.agg #[.int .i64 4,.int .i64 dst,.int .i64 a,.int .i64 b,.int .i64 c],.int .i64 nums,.func (.func 39) #[] #[.pointer (some ⟨bn,0,none⟩)]] w fun e w'=>e=.returned (.int .i64 (1:Int))/\Below w.heap.size w w':=by
 have h:=dK 4 dst a b c P bn w 1 s hd r rfl (by omega)
 subst kb
 have J:(c != 0)=true:=by simpa using y
 clear s hd r
 go_enter Tryz.func41,Tryz.ntmps41
 go_wp2_with (first|(go_at_call 11;refine h.mono ?_;rintro e w1 ⟨Y,cap,rfl,D,k,j⟩;clear h)|(go_at_call 39;refine k.mono ?_;rintro e w2 ⟨rfl,u⟩;obtain rfl:=u.symm)|(go_at_call 73;refine j.mono ?_;rintro e w2 ⟨rfl,n,l⟩;obtain ⟨I,O,X,Q,U,-⟩:=n.out;clear D k j))
 refine wp_loop_rounds 2 ?_
 rw[rounds_succ]
 go_wp2
 rw[rounds_succ]
 go_wp2
 go_ret
 exact ⟨rfl,l.out.alloc l.out.size _⟩
theorem Xd (s:w.cell? ⟨bn,0,none⟩=some (.int .i64 P)) (hd:cR P dst=true) (r:(asks ⟨4,dst,a,b,c⟩).all (cR P)=true)  (kb:b=0) (y:c=0) :
    Calls Tryz.prog 41 #[.agg #[.int .i64 4,.int .i64 dst,.int .i64 a,.int .i64 b,.int .i64 c],.int .i64 nums,.func (.func 39) #[] #[.pointer (some ⟨bn,0,none⟩)]] w fun e w'=>e=.returned (.int .i64 (0:Int))/\Below w.heap.size w w':=by
 have h:=dK 4 dst a b c P bn w 1 s hd r rfl (by omega)
 subst kb
 subst y
 clear s hd r
 go_enter Tryz.func41,Tryz.ntmps41
 go_wp2_with (first|(go_at_call 11;refine h.mono ?_;rintro e w1 ⟨X,cap,rfl,D,k,j⟩;clear h)|(go_at_call 39;refine k.mono ?_;rintro e w2 ⟨rfl,u⟩;obtain rfl:=u.symm)|(go_at_call 73;refine j.mono ?_;rintro e w2 ⟨rfl,n,l⟩;obtain ⟨I,J,U,O,Q,-⟩:=n.out;clear D k j))
 refine wp_loop_rounds 3 ?_
 rw[rounds_succ]
 go_wp2
 rw[rounds_succ]
 go_wp2
 rw[rounds_succ]
 go_wp2
 go_ret
 exact ⟨rfl,l.out.alloc l.out.size _⟩
theorem aC0 (s:w.cell? ⟨bn,0,none⟩=some (.int .i64 P)) (hd:cR P dst=true) (r:(asks ⟨5,dst,a,b,c⟩).all (cR P)=true)   (kb:b≠0) :
    Calls Tryz.prog 41 #[.agg #[.int .i64 5,.int .i64 dst,.int .i64 a,.int .i64 b,.int .i64 c],.int .i64 nums,.func (.func 39) #[] #[.pointer (some ⟨bn,0,none⟩)]] w fun e w'=>e=.returned (.int .i64 (1:Int))/\Below w.heap.size w w':=by
 have h:=dK 5 dst a b c P bn w 1 s hd r rfl (by omega)
 have tb:(b != 0)=true:=by simpa using kb
 clear s hd r
 go_enter Tryz.func41,Tryz.ntmps41
 go_wp2_with (first|(go_at_call 11;refine h.mono ?_;rintro e w1 ⟨U,cap,rfl,y,k,j⟩;clear h)|(go_at_call 39;refine k.mono ?_;rintro e w2 ⟨rfl,u⟩;obtain rfl:=u.symm)|(go_at_call 73;refine j.mono ?_;rintro e w2 ⟨rfl,n,l⟩;obtain ⟨D,I,Q,J,O,-⟩:=n.out;clear y k j))
 refine wp_loop_rounds 1 ?_
 rw[rounds_succ]
 go_wp2
 go_ret
 exact ⟨rfl,l.out.alloc l.out.size _⟩
theorem Xc (s:w.cell? ⟨bn,0,none⟩=some (.int .i64 P)) (hd:cR P dst=true) (r:(asks ⟨5,dst,a,b,c⟩).all (cR P)=true)  (kb:b=0) (y:c≠0) :
    Calls Tryz.prog 41 #[.agg #[.int .i64 5,.int .i64 dst,.int .i64 a,.int .i64 b,.int .i64 c],.int .i64 nums,.func (.func 39) #[] #[.pointer (some ⟨bn,0,none⟩)]] w fun e w'=>e=.returned (.int .i64 (1:Int))/\Below w.heap.size w w':=by
 have h:=dK 5 dst a b c P bn w 1 s hd r rfl (by omega)
 subst kb
 have J:(c != 0)=true:=by simpa using y
 clear s hd r
 go_enter Tryz.func41,Tryz.ntmps41
 go_wp2_with (first|(go_at_call 11;refine h.mono ?_;rintro e w1 ⟨Y,cap,rfl,D,k,j⟩;clear h)|(go_at_call 39;refine k.mono ?_;rintro e w2 ⟨rfl,u⟩;obtain rfl:=u.symm)|(go_at_call 73;refine j.mono ?_;rintro e w2 ⟨rfl,n,l⟩;obtain ⟨I,O,X,Q,U,-⟩:=n.out;clear D k j))
 refine wp_loop_rounds 2 ?_
 rw[rounds_succ]
 go_wp2
 rw[rounds_succ]
 go_wp2
 go_ret
 exact ⟨rfl,l.out.alloc l.out.size _⟩
theorem Xb (s:w.cell? ⟨bn,0,none⟩=some (.int .i64 P)) (hd:cR P dst=true) (r:(asks ⟨5,dst,a,b,c⟩).all (cR P)=true)  (kb:b=0) (y:c=0) :
    Calls Tryz.prog 41 #[.agg #[.int .i64 5,.int .i64 dst,.int .i64 a,.int .i64 b,.int .i64 c],.int .i64 nums,.func (.func 39) #[] #[.pointer (some ⟨bn,0,none⟩)]] w fun e w'=>e=.returned (.int .i64 (0:Int))/\Below w.heap.size w w':=by
 have h:=dK 5 dst a b c P bn w 1 s hd r rfl (by omega)
 subst kb
 subst y
 clear s hd r
 go_enter Tryz.func41,Tryz.ntmps41
 go_wp2_with (first|(go_at_call 11;refine h.mono ?_;rintro e w1 ⟨X,cap,rfl,D,k,j⟩;clear h)|(go_at_call 39;refine k.mono ?_;rintro e w2 ⟨rfl,u⟩;obtain rfl:=u.symm)|(go_at_call 73;refine j.mono ?_;rintro e w2 ⟨rfl,n,l⟩;obtain ⟨I,J,U,O,Q,-⟩:=n.out;clear D k j))
 refine wp_loop_rounds 3 ?_
 rw[rounds_succ]
 go_wp2
 rw[rounds_succ]
 go_wp2
 rw[rounds_succ]
 go_wp2
 go_ret
 exact ⟨rfl,l.out.alloc l.out.size _⟩
end
end Nx
end
end Go.Proofs.YthieaobjdpfcoaaGreatDoor
