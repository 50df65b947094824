import Derived.Test.YthieaobjdpfcoaaGreatDoorUNt5
set_option maxHeartbeats 1000000
namespace Go.Proofs.YthieaobjdpfcoaaGreatDoor
section
open Go.RowKit
namespace Nx
theorem tK (p P:Int) (bn:Nat) (w:World) (j:w.cell? ⟨bn,0,none⟩=some (.int .i64 P)) :
    Calls Tryz.prog 39 #[.int .i64 p,.pointer (some ⟨bn,0,none⟩)] w fun e w'=>e=.returned (.bool (cR P p))/\w'=w:=by
 by_cases h0:0≤p
 ·have E:Hid (cR P p=decide (p<P)):=by unfold Hid cR;simp[h0]
  go_enter Tryz.func39,Tryz.ntmps39
  go_wp2
  go_ret
  exact ⟨by rw[E.out];rfl,rfl⟩
 ·have E:Hid (cR P p=false):=by unfold Hid cR;simp[h0]
  have h:p<0:=by omega
  go_enter Tryz.func39,Tryz.ntmps39
  go_wp2
  go_ret
  exact ⟨by rw[E.out];rfl,rfl⟩
theorem Li (p P:Int) (bn qb:Nat) (w:World) (k:w.cell? ⟨bn,0,none⟩=some (.int .i64 P)) (l:w.cell? ⟨qb,0,none⟩=some (.func (.func 39) #[] #[.pointer (some ⟨bn,0,none⟩)])) :
    Calls Tryz.prog 121 #[.int .i64 p,.pointer (some ⟨qb,0,none⟩)] w fun e w'=>e=.returned (.bool (!cR P p))/\w'=w:=by
 have h:=tK p P bn w k
 obtain ⟨b,hb⟩:∃b,b=cR P p:=⟨_,rfl⟩
 rw[<-hb] at h ⊢
 clear hb
 go_enter Tryz.func121,Tryz.ntmps121
 go_wp2_with (go_at_call 39;refine h.mono ?_;rintro e w' ⟨rfl,j⟩;obtain rfl:=j.symm)
 go_ret
 exact ⟨rfl,rfl⟩
theorem qQ {A:Nat->Prop}(v:Value) (zs:List Int) (P:Int) (bn qb:Nat) (w:World) (h:bH A w v zs) (Y:zs.length≤100000) (Z:w.cell? ⟨bn,0,none⟩=some (.int .i64 P)) (Q:w.cell? ⟨qb,0,none⟩=some (.func (.func 39) #[] #[.pointer (some ⟨bn,0,none⟩)])) :
    Calls Tryz.prog 122 #[v,.func (.func 121) #[] #[.pointer (some ⟨qb,0,none⟩)]] w fun e w'=>∃r:Int,e=.returned (.int .i64 r)/\decide (0≤r)=!zs.all (cR P)/\w'=w:=by
 obtain ⟨U,b,n,cap,rfl,O,J⟩:=h
 have H1:Hid (0<zs.length->U=some ⟨b,n,none⟩/\A b):=O
 have H2:Hid _:=J
 have hN:=fun p=>Li p P bn qb w Z Q
 clear O J Z Q
 go_enter Tryz.func122,Tryz.ntmps122
 go_wp2
 go_loop [8] (fun i=>∃k:Nat,k≤zs.length/\i=.int .i64 k/\∀j,j<k->cR P (zs.getD j 0)=true) (fun i=>zs.length-(intOf i).toNat)
 case atStart=>exact ⟨0,aJ5 _,rfl,fun j u=>by omega⟩
 case round=>
  obtain ⟨k,hk,rfl,l⟩:=hrel
  have X:Hid _:=l
  clear l
  by_cases hlt:k<zs.length
  ·have aa:=Q7 U b n zs.length cap k hlt (fun h=>(H1.out h).1)
   obtain ⟨x,hx⟩:∃x,x=zs.getD k 0:=⟨_,rfl⟩
   have cx:w.cell? ⟨b,n+k,none⟩=some (.int .i64 x):=by rw[hx];exact H2.out k hlt
   have HX:Hid _:=hx
   clear hx
   have s:=hN x
   cases hb:cR P x with
   | true=>
    rw[hb] at s
    have I:Hid _:=hb
    clear hb
    go_wp2_with (go_at_call 121;refine s.mono ?_;rintro e w' ⟨rfl,D⟩;obtain rfl:=D.symm)
    go_round
    case rel=>exact ⟨k+1,by omega,by go_num,fun j u=>by
     by_cases e:j=k
     ·rw[e,<-HX.out];exact I.out
     ·exact X.out j (by omega)⟩
    case measure=>simp[intOf];omega
   | false=>
    rw[hb] at s
    have I:Hid _:=hb
    clear hb
    go_wp2_with (go_at_call 121;refine s.mono ?_;rintro e w' ⟨rfl,D⟩;obtain rfl:=D.symm)
    go_ret
    refine ⟨k,rfl,?_,rfl⟩
    have:zs.all (cR P)=false:=by
     apply Bool.eq_false_iff.2
     intro h
     have:=aR6.1 h (zs[k]) (aW7 hlt)
     have e:zs.getD k 0=zs[k]:=by simp[List.getD_eq_getElem?_getD,hlt]
     rw[<-e,<-HX.out,I.out] at this;cases this
    rw[this];simp
  ·go_wp2
   go_ret
   refine ⟨-1,rfl,?_,rfl⟩
   have:zs.all (cR P)=true:=aR6.2 fun y hy=>by
    obtain ⟨j,u,rfl⟩:=List.getElem_of_mem hy
    have:=X.out j (by omega)
    simpa [iO,u] using this
   rw[this];rfl
theorem U0 {A:Nat->Prop}(v:Value) (zs:List Int) (P:Int) (bn qb:Nat) (w:World) (h:bH A w v zs) (j:zs.length≤100000) (n:w.cell? ⟨bn,0,none⟩=some (.int .i64 P)) (l:w.cell? ⟨qb,0,none⟩=some (.func (.func 39) #[] #[.pointer (some ⟨bn,0,none⟩)])) :
    Calls Tryz.prog 120 #[v,.func (.func 121) #[] #[.pointer (some ⟨qb,0,none⟩)]] w fun e w'=>e=.returned (.bool (!zs.all (cR P)))/\w'=w:=by
 have s:=qQ v zs P bn qb w h j n l
 clear h n l
 go_enter Tryz.func120,Tryz.ntmps120
 go_wp2_with (go_at_call 122;refine s.mono ?_;rintro e w' ⟨r,rfl,k,u⟩;obtain rfl:=u.symm;have HR:Hid _:=k;clear k)
 go_ret
 exact ⟨by rw[<-HR.out];rfl,rfl⟩
theorem X7 {A:Nat->Prop}(v:Value) (zs:List Int) (P:Int) (bn:Nat) (w:World) (h:bH A w v zs) (l:zs.length≤100000) (r:w.cell? ⟨bn,0,none⟩=some (.int .i64 P)) :
    Calls Tryz.prog 73 #[v,.func (.func 39) #[] #[.pointer (some ⟨bn,0,none⟩)]] w fun e w'=>e=.returned (.bool (zs.all (cR P)))/\Below w.heap.size w w':=by
 have j:=U0 v zs P bn w.heap.size (w.alloc (.cells #[.func (.func 39) #[] #[.pointer (some ⟨bn,0,none⟩)]] 85)) (h.carry fun b y s=>⟨y,Below.heap_alloc _ _ _ s⟩) l (bG (aE w _) r) (by simp)
 obtain ⟨n,k⟩:∃n,n=zs.all (cR P):=⟨_,rfl⟩
 rw[<-k] at j ⊢
 clear h r k
 go_enter Tryz.func73,Tryz.ntmps73
 go_wp2_with (go_at_call 120;refine j.mono ?_;rintro e w' ⟨rfl,u⟩;obtain rfl:=u.symm)
 go_ret
 refine ⟨?_,aE w _⟩
 cases n<;>rfl
theorem aL7 (w:World) (a:Int):bH (fun b=>w.heap.size≤b) (w.alloc (.cells #[.int .i64 a] 3)) (.slice (some ⟨w.heap.size,0,none⟩) 1 1) [a]:=
 ⟨_,w.heap.size,0,1,rfl,fun _=>⟨rfl,aF4 _⟩,fun k hk=>by
  match k,hk with
  | 0,_=>simp⟩
theorem aL6 (w:World) (a b:Int):bH (fun b=>w.heap.size≤b) (w.alloc (.cells #[.int .i64 a,.int .i64 b] 3)) (.slice (some ⟨w.heap.size,0,none⟩) 2 2) [a,b]:=
 ⟨_,w.heap.size,0,2,rfl,fun _=>⟨rfl,aF4 _⟩,fun k hk=>by
  match k,hk with
  | 0,_=>simp
  | 1,_=>simp⟩
theorem aL5 (w:World) (a b c:Int):bH (fun b=>w.heap.size≤b) (w.alloc (.cells #[.int .i64 a,.int .i64 b,.int .i64 c] 3)) (.slice (some ⟨w.heap.size,0,none⟩) 3 3) [a,b,c]:=
 ⟨_,w.heap.size,0,3,rfl,fun _=>⟨rfl,aF4 _⟩,fun k hk=>by
  match k,hk with
  | 0,_=>simp
  | 1,_=>simp
  | 2,_=>simp⟩
theorem nI (code dst a b c:Int) (w:World) :
    Calls Tryz.prog 11 #[.agg #[.int .i64 code,.int .i64 dst,.int .i64 a,.int .i64 b,.int .i64 c]] w fun e w'=>∃v,e=.returned v/\bH (fun b=>w.heap.size≤b) w' v (asks ⟨code,dst,a,b,c⟩)/\Below w.heap.size w w':=by
 have j:=fun o=>aE w o
 by_cases h1:code=2\/code=4\/code=5
 ·have E:Hid (asks ⟨code,dst,a,b,c⟩=[a]):=by unfold Hid asks;rw[if_pos h1]
  rcases h1 with rfl|rfl|rfl
  all_goals
   go_enter Tryz.func11,Tryz.ntmps11
   go_wp2
   go_ret
   refine ⟨_,rfl,?_,ball (j _) (aE _ _)⟩
   rw[E.out]
   obtain ⟨s,u,l,cap,e,n,y⟩:=aL7 (w.alloc (.cells #[.int .i64 _,.int .i64 dst,.int .i64 a,.int .i64 b,.int .i64 c] 38)) a
   refine ⟨s,u,l,cap,?_,fun r=>⟨(n r).1,aH5 (j _).size (n r).2⟩,y⟩
   rw[<-e];simp
 ·by_cases h2:6≤code/\code≤16
  ·have E:Hid (asks ⟨code,dst,a,b,c⟩=[a,b]):=by unfold Hid asks;rw[if_neg h1,if_pos h2]
   obtain ⟨D,Y⟩:=h2
   clear h1
   have Q:(code==2)=false:=by simp;omega
   have X:(code==4)=false:=by simp;omega
   have O:(code==5)=false:=by simp;omega
   go_enter Tryz.func11,Tryz.ntmps11
   go_wp2
   go_ret
   refine ⟨_,rfl,?_,ball (j _) (aE _ _)⟩
   rw[E.out]
   obtain ⟨s,u,l,cap,e,n,y⟩:=aL6 (w.alloc (.cells #[.int .i64 code,.int .i64 dst,.int .i64 a,.int .i64 b,.int .i64 c] 38)) a b
   refine ⟨s,u,l,cap,?_,fun r=>⟨(n r).1,aH5 (j _).size (n r).2⟩,y⟩
   rw[<-e];simp
  ·by_cases D:code=17
   ·have E:Hid (asks ⟨code,dst,a,b,c⟩=[a,b,c]):=by unfold Hid asks;rw[if_neg h1,if_neg h2,if_pos D]
    subst D
    clear h1 h2
    go_enter Tryz.func11,Tryz.ntmps11
    go_wp2
    go_ret
    refine ⟨_,rfl,?_,ball (j _) (aE _ _)⟩
    rw[E.out]
    obtain ⟨s,u,l,cap,e,n,y⟩:=aL5 (w.alloc (.cells #[.int .i64 17,.int .i64 dst,.int .i64 a,.int .i64 b,.int .i64 c] 38)) a b c
    refine ⟨s,u,l,cap,?_,fun r=>⟨(n r).1,aH5 (j _).size (n r).2⟩,y⟩
    rw[<-e];simp
   ·have E:Hid (asks ⟨code,dst,a,b,c⟩=[]):=by unfold Hid asks;rw[if_neg h1,if_neg h2,if_neg D]
    have Q:(code==2)=false:=by simp;omega
    have X:(code==4)=false:=by simp;omega
    have O:(code==5)=false:=by simp;omega
    have U:(code==17)=false:=by simp;omega
    clear h1 D
    by_cases h6:6≤code
    ·have I:16<code:=by omega
     clear h2
     go_enter Tryz.func11,Tryz.ntmps11
     go_wp2
     go_ret
     exact ⟨_,rfl,by rw[E.out];exact ⟨none,0,0,0,rfl,fun h=>by simp at h,fun k J=>by simp at J⟩,j _⟩
    ·have I:code<6:=by omega
     clear h2
     go_enter Tryz.func11,Tryz.ntmps11
     go_wp2
     go_ret
     exact ⟨_,rfl,by rw[E.out];exact ⟨none,0,0,0,rfl,fun h=>by simp at h,fun k J=>by simp at J⟩,j _⟩
end Nx
end
section
open Go.RowKit
namespace Nx
theorem aM6 (code dst a b c:Int) (w:World) (k:Nat) (r:(asks ⟨code,dst,a,b,c⟩).length=k) :
    Calls Tryz.prog 11 #[.agg #[.int .i64 code,.int .i64 dst,.int .i64 a,.int .i64 b,.int .i64 c]] w fun e w'=>∃ad cap,e=.returned (.slice ad k cap)/\Hid (bH (fun b=>w.heap.size≤b) w' (.slice ad k cap) (asks ⟨code,dst,a,b,c⟩))/\Hid (Below w.heap.size w w'):=by
 subst r
 refine (nI code dst a b c w).mono fun e w' ⟨v,he,hi,hb⟩=>?_
 obtain ⟨ad,n,h,cap,rfl,l,j⟩:=hi
 exact ⟨ad,cap,he,⟨ad,n,h,cap,rfl,l,j⟩,hb⟩
section
variable (code dst a b c P:Int) (nums bn:Nat) (w:World)
def uB (w1:World) (q bn:Nat) (code dst a b c P:Int):Prop:=
 w1.cell? ⟨q,0,none⟩=some (.int .i64 code)/\w1.cell? ⟨q,1,none⟩=some (.int .i64 dst)/\w1.cell? ⟨q,2,none⟩=some (.int .i64 a)/\w1.cell? ⟨q,3,none⟩=some (.int .i64 b)/\w1.cell? ⟨q,4,none⟩=some (.int .i64 c)/\w1.cell? ⟨bn,0,none⟩=some (.int .i64 P)
theorem uB.below {w1 w2:World}{q bn:Nat}{code dst a b c P:Int}(h:uB w1 q bn code dst a b c P) (hb:Below w1.heap.size w1 w2):uB w2 q bn code dst a b c P:=
 ⟨bG hb h.1,bG hb h.2.1,bG hb h.2.2.1,bG hb h.2.2.2.1,bG hb h.2.2.2.2.1,bG hb h.2.2.2.2.2⟩
theorem uB.start (hc:w.cell? ⟨bn,0,none⟩=some (.int .i64 P)):uB (w.alloc (.cells #[.int .i64 code,.int .i64 dst,.int .i64 a,.int .i64 b,.int .i64 c] 38)) w.heap.size bn code dst a b c P:=
 ⟨by simp,by simp,by simp,by simp,by simp,bG (aE w _) hc⟩
theorem Kb (h:code<1\/17<code\/code=3) :
    Calls Tryz.prog 41 #[.agg #[.int .i64 code,.int .i64 dst,.int .i64 a,.int .i64 b,.int .i64 c],.int .i64 nums,.func (.func 39) #[] #[.pointer (some ⟨bn,0,none⟩)]] w fun e w'=>e=.returned (.int .i64 3)/\Below w.heap.size w w':=by
 have j:=fun o=>aE w o
 by_cases h1:code<1
 ·go_enter Tryz.func41,Tryz.ntmps41
  go_wp2
  go_ret
  exact ⟨rfl,j _⟩
 ·by_cases h2:17<code
  ·have k:1≤code:=by omega
   go_enter Tryz.func41,Tryz.ntmps41
   go_wp2
   go_ret
   exact ⟨rfl,j _⟩
  ·obtain rfl:code=3:=by omega
   go_enter Tryz.func41,Tryz.ntmps41
   go_wp2
   go_ret
   exact ⟨rfl,j _⟩
theorem Pb (n:w.cell? ⟨bn,0,none⟩=some (.int .i64 P)) (I:1≤code) (D:code≤17) (r:code≠3) (hd:cR P dst=false) :
    Calls Tryz.prog 41 #[.agg #[.int .i64 code,.int .i64 dst,.int .i64 a,.int .i64 b,.int .i64 c],.int .i64 nums,.func (.func 39) #[] #[.pointer (some ⟨bn,0,none⟩)]] w fun e w'=>e=.returned (.int .i64 2)/\Below w.heap.size w w':=by
 have J:(code==3)=false:=by simpa using r
 have u:Hid (∀w1,Below (w.alloc (.cells #[.int .i64 code,.int .i64 dst,.int .i64 a,.int .i64 b,.int .i64 c] 38)).heap.size (w.alloc (.cells #[.int .i64 code,.int .i64 dst,.int .i64 a,.int .i64 b,.int .i64 c] 38)) w1->w1.cell? ⟨w.heap.size,1,none⟩=some (.int .i64 dst)/\(Calls Tryz.prog 39 #[.int .i64 dst,.pointer (some ⟨bn,0,none⟩)] w1 fun e w'=>e=.returned (.bool false)/\w'=w1)/\Hid (Below w.heap.size w w1)):=fun w1 hb=>by
  have hx:=(uB.start code dst a b c P bn w n).below hb
  have:=tK dst P bn w1 hx.2.2.2.2.2
  rw[hd] at this
  exact ⟨hx.2.1,this,ball (aE w _) hb⟩
 have h:=nI code dst a b c (w.alloc (.cells #[.int .i64 code,.int .i64 dst,.int .i64 a,.int .i64 b,.int .i64 c] 38))
 clear n hd r
 go_enter Tryz.func41,Tryz.ntmps41
 go_wp2_with (first|(go_at_call 11;refine h.mono ?_;rintro e w1 ⟨v,rfl,y,j⟩;obtain ⟨O,l,k⟩:=u.out w1 j;clear y j h)|(go_at_call 39;refine l.mono ?_;rintro e w2 ⟨rfl,s⟩;obtain rfl:=s.symm))
 go_ret
 exact ⟨rfl,k.out⟩
theorem Kc (D:w.cell? ⟨bn,0,none⟩=some (.int .i64 P)) (Y:1≤code) (X:code≤17) (J:code≠3) (hd:cR P dst=true) (I:(asks ⟨code,dst,a,b,c⟩).all (cR P)=false) :
    Calls Tryz.prog 41 #[.agg #[.int .i64 code,.int .i64 dst,.int .i64 a,.int .i64 b,.int .i64 c],.int .i64 nums,.func (.func 39) #[] #[.pointer (some ⟨bn,0,none⟩)]] w fun e w'=>e=.returned (.int .i64 2)/\Below w.heap.size w w':=by
 have Z:(code==3)=false:=by simpa using J
 have s:(asks ⟨code,dst,a,b,c⟩).length≤100000:=by unfold asks;split<;>(try split)<;>(try split)<;>simp
 have U:Hid (∀w1 v,bH (fun y=>(w.alloc (.cells #[.int .i64 code,.int .i64 dst,.int .i64 a,.int .i64 b,.int .i64 c] 38)).heap.size≤y) w1 v (asks ⟨code,dst,a,b,c⟩)->Below (w.alloc (.cells #[.int .i64 code,.int .i64 dst,.int .i64 a,.int .i64 b,.int .i64 c] 38)).heap.size (w.alloc (.cells #[.int .i64 code,.int .i64 dst,.int .i64 a,.int .i64 b,.int .i64 c] 38)) w1->w1.cell? ⟨w.heap.size,1,none⟩=some (.int .i64 dst)/\(Calls Tryz.prog 39 #[.int .i64 dst,.pointer (some ⟨bn,0,none⟩)] w1 fun e w'=>e=.returned (.bool true)/\w'=w1)/\
     (Calls Tryz.prog 73 #[v,.func (.func 39) #[] #[.pointer (some ⟨bn,0,none⟩)]] w1 fun e w'=>e=.returned (.bool false)/\Below w.heap.size w w')):=fun w1 v Q hb=>by
  have hx:=(uB.start code dst a b c P bn w D).below hb
  have:=tK dst P bn w1 hx.2.2.2.2.2
  rw[hd] at this
  have r:=X7 v _ P bn w1 Q s hx.2.2.2.2.2
  rw[I] at r
  exact ⟨hx.2.1,this,r.mono fun e w' ⟨he,hb'⟩=>⟨he,ball (ball (aE w _) hb) hb'⟩⟩
 have h:=nI code dst a b c (w.alloc (.cells #[.int .i64 code,.int .i64 dst,.int .i64 a,.int .i64 b,.int .i64 c] 38))
 clear D hd J I s
 go_enter Tryz.func41,Tryz.ntmps41
 go_wp2_with (first|(go_at_call 11;refine h.mono ?_;rintro e w1 ⟨v,rfl,u,j⟩;obtain ⟨d1,n,k⟩:=U.out w1 v u j;clear u j h)|(go_at_call 39;refine n.mono ?_;rintro e w2 ⟨rfl,O⟩;obtain rfl:=O.symm)|(go_at_call 73;refine k.mono ?_;rintro e w2 ⟨rfl,l⟩))
 go_ret
 exact ⟨rfl,l⟩
theorem dK (k:Nat) (l:w.cell? ⟨bn,0,none⟩=some (.int .i64 P)) (hd:cR P dst=true) (n:(asks ⟨code,dst,a,b,c⟩).all (cR P)=true) (j:(asks ⟨code,dst,a,b,c⟩).length=k) (r:k≤3) :
    (Calls Tryz.prog 11 #[.agg #[.int .i64 code,.int .i64 dst,.int .i64 a,.int .i64 b,.int .i64 c]] (w.alloc (.cells #[.int .i64 code,.int .i64 dst,.int .i64 a,.int .i64 b,.int .i64 c] 38)) fun e w1=>∃ad cap,e=.returned (.slice ad k cap)/\w1.cell? ⟨w.heap.size,1,none⟩=some (.int .i64 dst)/\(Calls Tryz.prog 39 #[.int .i64 dst,.pointer (some ⟨bn,0,none⟩)] w1 fun e w'=>e=.returned (.bool true)/\w'=w1)/\
     (Calls Tryz.prog 73 #[.slice ad k cap,.func (.func 39) #[] #[.pointer (some ⟨bn,0,none⟩)]] w1 fun e w'=>e=.returned (.bool true)/\Hid (uB w' w.heap.size bn code dst a b c P)/\Hid (Below w.heap.size w w'))):=by
 refine (aM6 code dst a b c _ k j).mono fun e w1 ⟨ad,cap,he,hi,hb⟩=>⟨ad,cap,he,?_⟩
 have hx:=(uB.start code dst a b c P bn w l).below hb.out
 have:=tK dst P bn w1 hx.2.2.2.2.2
 rw[hd] at this
 have h:=X7 _ _ P bn w1 hi.out (by omega) hx.2.2.2.2.2
 rw[n] at h
 exact ⟨hx.2.1,this,h.mono fun e w' ⟨he,hb'⟩=>⟨he,hx.below hb',ball (ball (aE w _) hb.out) hb'⟩⟩
end
end Nx
end
section
open Go.RowKit
namespace Nx
section
variable (code dst a b c P:Int) (nums bn:Nat) (w:World)
theorem aC6 (s:w.cell? ⟨bn,0,none⟩=some (.int .i64 P)) (hd:cR P dst=true) (h:a<0) :
    Calls Tryz.prog 41 #[.agg #[.int .i64 1,.int .i64 dst,.int .i64 a,.int .i64 b,.int .i64 c],.int .i64 nums,.func (.func 39) #[] #[.pointer (some ⟨bn,0,none⟩)]] w fun e w'=>e=.returned (.int .i64 (2:Int))/\Below w.heap.size w w':=by
 have j:=dK 1 dst a b c P bn w 0 s hd rfl rfl (by omega)
 clear s hd
 go_enter Tryz.func41,Tryz.ntmps41
 go_wp2_with (first|(go_at_call 11;refine j.mono ?_;rintro e w1 ⟨J,cap,rfl,y,l,k⟩;clear j)|(go_at_call 39;refine l.mono ?_;rintro e w2 ⟨rfl,u⟩;obtain rfl:=u.symm)|(go_at_call 73;refine k.mono ?_;rintro e w2 ⟨rfl,n,r⟩;obtain ⟨Q,D,I,O,U,-⟩:=n.out;clear y l k))
 go_ret
 exact ⟨rfl,r.out⟩
theorem aC7 (s:w.cell? ⟨bn,0,none⟩=some (.int .i64 P)) (hd:cR P dst=true) (h:0≤a) (D:(nums:Int)≤a) :
    Calls Tryz.prog 41 #[.agg #[.int .i64 1,.int .i64 dst,.int .i64 a,.int .i64 b,.int .i64 c],.int .i64 nums,.func (.func 39) #[] #[.pointer (some ⟨bn,0,none⟩)]] w fun e w'=>e=.returned (.int .i64 (2:Int))/\Below w.heap.size w w':=by
 have j:=dK 1 dst a b c P bn w 0 s hd rfl rfl (by omega)
 clear s hd
 go_enter Tryz.func41,Tryz.ntmps41
 go_wp2_with (first|(go_at_call 11;refine j.mono ?_;rintro e w1 ⟨O,cap,rfl,y,l,k⟩;clear j)|(go_at_call 39;refine l.mono ?_;rintro e w2 ⟨rfl,u⟩;obtain rfl:=u.symm)|(go_at_call 73;refine k.mono ?_;rintro e w2 ⟨rfl,n,r⟩;obtain ⟨U,I,J,Q,X,-⟩:=n.out;clear y l k))
 go_ret
 exact ⟨rfl,r.out⟩
theorem aJ9 (r:w.cell? ⟨bn,0,none⟩=some (.int .i64 P)) (hd:cR P dst=true) (s:(asks ⟨1,dst,a,b,c⟩).all (cR P)=true) (X:0≤a) (O:a<nums)  (kb:b≠0) :
    Calls Tryz.prog 41 #[.agg #[.int .i64 1,.int .i64 dst,.int .i64 a,.int .i64 b,.int .i64 c],.int .i64 nums,.func (.func 39) #[] #[.pointer (some ⟨bn,0,none⟩)]] w fun e w'=>e=.returned (.int .i64 (1:Int))/\Below w.heap.size w w':=by
 have h:=dK 1 dst a b c P bn w 0 r hd s rfl (by omega)
 have tb:(b != 0)=true:=by simpa using kb
 clear r hd s
 go_enter Tryz.func41,Tryz.ntmps41
 go_wp2_with (first|(go_at_call 11;refine h.mono ?_;rintro e w1 ⟨J,cap,rfl,y,l,j⟩;clear h)|(go_at_call 39;refine l.mono ?_;rintro e w2 ⟨rfl,u⟩;obtain rfl:=u.symm)|(go_at_call 73;refine j.mono ?_;rintro e w2 ⟨rfl,n,k⟩;obtain ⟨U,D,I,Q,Y,-⟩:=n.out;clear y l j))
 refine wp_loop_rounds 1 ?_
 rw[rounds_succ]
 go_wp2
 go_ret
 exact ⟨rfl,k.out.alloc k.out.size _⟩
theorem aC4 (r:w.cell? ⟨bn,0,none⟩=some (.int .i64 P)) (hd:cR P dst=true) (s:(asks ⟨1,dst,a,b,c⟩).all (cR P)=true) (Y:0≤a) (Q:a<nums) (kb:b=0) (D:c≠0) :
    Calls Tryz.prog 41 #[.agg #[.int .i64 1,.int .i64 dst,.int .i64 a,.int .i64 b,.int .i64 c],.int .i64 nums,.func (.func 39) #[] #[.pointer (some ⟨bn,0,none⟩)]] w fun e w'=>e=.returned (.int .i64 (1:Int))/\Below w.heap.size w w':=by
 have h:=dK 1 dst a b c P bn w 0 r hd s rfl (by omega)
 subst kb
 have tc:(c != 0)=true:=by simpa using D
 clear r hd s
 go_enter Tryz.func41,Tryz.ntmps41
 go_wp2_with (first|(go_at_call 11;refine h.mono ?_;rintro e w1 ⟨O,cap,rfl,y,l,j⟩;clear h)|(go_at_call 39;refine l.mono ?_;rintro e w2 ⟨rfl,u⟩;obtain rfl:=u.symm)|(go_at_call 73;refine j.mono ?_;rintro e w2 ⟨rfl,n,k⟩;obtain ⟨X,I,J,U,Z,-⟩:=n.out;clear y l j))
 refine wp_loop_rounds 2 ?_
 rw[rounds_succ]
 go_wp2
 rw[rounds_succ]
 go_wp2
 go_ret
 exact ⟨rfl,k.out.alloc k.out.size _⟩
theorem aC3 (r:w.cell? ⟨bn,0,none⟩=some (.int .i64 P)) (hd:cR P dst=true) (s:(asks ⟨1,dst,a,b,c⟩).all (cR P)=true) (Y:0≤a) (Q:a<nums) (kb:b=0) (D:c=0) :
    Calls Tryz.prog 41 #[.agg #[.int .i64 1,.int .i64 dst,.int .i64 a,.int .i64 b,.int .i64 c],.int .i64 nums,.func (.func 39) #[] #[.pointer (some ⟨bn,0,none⟩)]] w fun e w'=>e=.returned (.int .i64 (0:Int))/\Below w.heap.size w w':=by
 have h:=dK 1 dst a b c P bn w 0 r hd s rfl (by omega)
 subst kb
 subst D
 clear r hd s
 go_enter Tryz.func41,Tryz.ntmps41
 go_wp2_with (first|(go_at_call 11;refine h.mono ?_;rintro e w1 ⟨O,cap,rfl,y,l,j⟩;clear h)|(go_at_call 39;refine l.mono ?_;rintro e w2 ⟨rfl,u⟩;obtain rfl:=u.symm)|(go_at_call 73;refine j.mono ?_;rintro e w2 ⟨rfl,n,k⟩;obtain ⟨X,I,J,U,Z,-⟩:=n.out;clear y l j))
 refine wp_loop_rounds 3 ?_
 rw[rounds_succ]
 go_wp2
 rw[rounds_succ]
 go_wp2
 rw[rounds_succ]
 go_wp2
 go_ret
 exact ⟨rfl,k.out.alloc k.out.size _⟩
theorem aI5 (r:w.cell? ⟨bn,0,none⟩=some (.int .i64 P)) (hd:cR P dst=true) (s:(asks ⟨code,dst,a,b,c⟩).all (cR P)=true) (Z:6≤code) (y:code≤16)  (I:c≠0) :
    Calls Tryz.prog 41 #[.agg #[.int .i64 code,.int .i64 dst,.int .i64 a,.int .i64 b,.int .i64 c],.int .i64 nums,.func (.func 39) #[] #[.pointer (some ⟨bn,0,none⟩)]] w fun e w'=>e=.returned (.int .i64 (1:Int))/\Below w.heap.size w w':=by
 have t1:(code==1)=false:=by simp;omega
 have Y:(code==3)=false:=by simp;omega
 have h:=dK code dst a b c P bn w 2 r hd s (by unfold asks;rw[if_neg (by simp;omega),if_pos (by simp;omega)];rfl) (by omega)
 have tc:(c != 0)=true:=by simpa using I
 clear r hd s
 go_enter Tryz.func41,Tryz.ntmps41
 go_wp2_with (first|(go_at_call 11;refine h.mono ?_;rintro e w1 ⟨Q,cap,rfl,D,l,j⟩;clear h)|(go_at_call 39;refine l.mono ?_;rintro e w2 ⟨rfl,u⟩;obtain rfl:=u.symm)|(go_at_call 73;refine j.mono ?_;rintro e w2 ⟨rfl,n,k⟩;obtain ⟨X,J,O,U,e4,-⟩:=n.out;clear D l j))
 refine wp_loop_rounds 1 ?_
 rw[rounds_succ]
 go_wp2
 go_ret
 exact ⟨rfl,k.out.alloc k.out.size _⟩
theorem aI3 (r:w.cell? ⟨bn,0,none⟩=some (.int .i64 P)) (hd:cR P dst=true) (s:(asks ⟨code,dst,a,b,c⟩).all (cR P)=true) (Z:6≤code) (y:code≤16) (I:c=0) :
    Calls Tryz.prog 41 #[.agg #[.int .i64 code,.int .i64 dst,.int .i64 a,.int .i64 b,.int .i64 c],.int .i64 nums,.func (.func 39) #[] #[.pointer (some ⟨bn,0,none⟩)]] w fun e w'=>e=.returned (.int .i64 (0:Int))/\Below w.heap.size w w':=by
 have t1:(code==1)=false:=by simp;omega
 have Y:(code==3)=false:=by simp;omega
 have h:=dK code dst a b c P bn w 2 r hd s (by unfold asks;rw[if_neg (by simp;omega),if_pos (by simp;omega)];rfl) (by omega)
 subst I
 clear r hd s
 go_enter Tryz.func41,Tryz.ntmps41
 go_wp2_with (first|(go_at_call 11;refine h.mono ?_;rintro e w1 ⟨Q,cap,rfl,D,l,j⟩;clear h)|(go_at_call 39;refine l.mono ?_;rintro e w2 ⟨rfl,u⟩;obtain rfl:=u.symm)|(go_at_call 73;refine j.mono ?_;rintro e w2 ⟨rfl,n,k⟩;obtain ⟨X,J,O,U,e4,-⟩:=n.out;clear D l j))
 refine wp_loop_rounds 2 ?_
 rw[rounds_succ]
 go_wp2
 rw[rounds_succ]
 go_wp2
 go_ret
 exact ⟨rfl,k.out.alloc k.out.size _⟩
theorem aJ0 (r:w.cell? ⟨bn,0,none⟩=some (.int .i64 P)) (hd:cR P dst=true) (s:(asks ⟨17,dst,a,b,c⟩).all (cR P)=true)   :
    Calls Tryz.prog 41 #[.agg #[.int .i64 17,.int .i64 dst,.int .i64 a,.int .i64 b,.int .i64 c],.int .i64 nums,.func (.func 39) #[] #[.pointer (some ⟨bn,0,none⟩)]] w fun e w'=>e=.returned (.int .i64 (0:Int))/\Below w.heap.size w w':=by
 have h:=dK 17 dst a b c P bn w 3 r hd s rfl (by omega)
 clear r hd s
 go_enter Tryz.func41,Tryz.ntmps41
 go_wp2_with (first|(go_at_call 11;refine h.mono ?_;rintro e w1 ⟨J,cap,rfl,y,l,j⟩;clear h)|(go_at_call 39;refine l.mono ?_;rintro e w2 ⟨rfl,u⟩;obtain rfl:=u.symm)|(go_at_call 73;refine j.mono ?_;rintro e w2 ⟨rfl,n,k⟩;obtain ⟨Q,D,I,O,U,-⟩:=n.out;clear y l j))
 refine wp_loop_rounds 1 ?_
 rw[rounds_succ]
 go_wp2
 go_ret
 exact ⟨rfl,k.out.alloc k.out.size _⟩
end
end Nx
end
section
open Go.RowKit
namespace Nx
section
variable (dst a b c P:Int) (nums bn:Nat) (w:World)
theorem aC2 (r:w.cell? ⟨bn,0,none⟩=some (.int .i64 P)) (hd:cR P dst=true) (s:(asks ⟨2,dst,a,b,c⟩).all (cR P)=true)   (kb:b≠0) :
    Calls Tryz.prog 41 #[.agg #[.int .i64 2,.int .i64 dst,.int .i64 a,.int .i64 b,.int .i64 c],.int .i64 nums,.func (.func 39) #[] #[.pointer (some ⟨bn,0,none⟩)]] w fun e w'=>e=.returned (.int .i64 (1:Int))/\Below w.heap.size w w':=by
 have h:=dK 2 dst a b c P bn w 1 r hd s rfl (by omega)
 have tb:(b != 0)=true:=by simpa using kb
 clear r hd s
 go_enter Tryz.func41,Tryz.ntmps41
 go_wp2_with (first|(go_at_call 11;refine h.mono ?_;rintro e w1 ⟨J,cap,rfl,y,l,j⟩;clear h)|(go_at_call 39;refine l.mono ?_;rintro e w2 ⟨rfl,u⟩;obtain rfl:=u.symm)|(go_at_call 73;refine j.mono ?_;rintro e w2 ⟨rfl,n,k⟩;obtain ⟨Q,D,I,O,U,-⟩:=n.out;clear y l j))
 refine wp_loop_rounds 1 ?_
 rw[rounds_succ]
 go_wp2
 go_ret
 exact ⟨rfl,k.out.alloc k.out.size _⟩
theorem Xg (r:w.cell? ⟨bn,0,none⟩=some (.int .i64 P)) (hd:cR P dst=true) (s:(asks ⟨2,dst,a,b,c⟩).all (cR P)=true)  (kb:b=0) (D:c≠0) :
    Calls Tryz.prog 41 #[.agg #[.int .i64 2,.int .i64 dst,.int .i64 a,.int .i64 b,.int .i64 c],.int .i64 nums,.func (.func 39) #[] #[.pointer (some ⟨bn,0,none⟩)]] w fun e w'=>e=.returned (.int .i64 (1:Int))/\Below w.heap.size w w':=by
 have h:=dK 2 dst a b c P bn w 1 r hd s rfl (by omega)
 subst kb
 have Y:(c != 0)=true:=by simpa using D
 clear r hd s
 go_enter Tryz.func41,Tryz.ntmps41
 go_wp2_with (first|(go_at_call 11;refine h.mono ?_;rintro e w1 ⟨O,cap,rfl,y,l,j⟩;clear h)|(go_at_call 39;refine l.mono ?_;rintro e w2 ⟨rfl,u⟩;obtain rfl:=u.symm)|(go_at_call 73;refine j.mono ?_;rintro e w2 ⟨rfl,n,k⟩;obtain ⟨U,I,J,Q,X,-⟩:=n.out;clear y l j))
 refine wp_loop_rounds 2 ?_
 rw[rounds_succ]
 go_wp2
 rw[rounds_succ]
 go_wp2
 go_ret
 exact ⟨rfl,k.out.alloc k.out.size _⟩
theorem Xf (r:w.cell? ⟨bn,0,none⟩=some (.int .i64 P)) (hd:cR P dst=true) (s:(asks ⟨2,dst,a,b,c⟩).all (cR P)=true)  (kb:b=0) (D:c=0) :
    Calls Tryz.prog 41 #[.agg #[.int .i64 2,.int .i64 dst,.int .i64 a,.int .i64 b,.int .i64 c],.int .i64 nums,.func (.func 39) #[] #[.pointer (some ⟨bn,0,none⟩)]] w fun e w'=>e=.returned (.int .i64 (0:Int))/\Below w.heap.size w w':=by
 have h:=dK 2 dst a b c P bn w 1 r hd s rfl (by omega)
 subst kb
 subst D
 clear r hd s
 go_enter Tryz.func41,Tryz.ntmps41
 go_wp2_with (first|(go_at_call 11;refine h.mono ?_;rintro e w1 ⟨O,cap,rfl,y,l,j⟩;clear h)|(go_at_call 39;refine l.mono ?_;rintro e w2 ⟨rfl,u⟩;obtain rfl:=u.symm)|(go_at_call 73;refine j.mono ?_;rintro e w2 ⟨rfl,n,k⟩;obtain ⟨U,I,J,Q,X,-⟩:=n.out;clear y l j))
 refine wp_loop_rounds 3 ?_
 rw[rounds_succ]
 go_wp2
 rw[rounds_succ]
 go_wp2
 rw[rounds_succ]
 go_wp2
 go_ret
 exact ⟨rfl,k.out.alloc k.out.size _⟩
theorem aC1 (r:w.cell? ⟨bn,0,none⟩=some (.int .i64 P)) (hd:cR P dst=true) (s:(asks ⟨4,dst,a,b,c⟩).all (cR P)=true)   (kb:b≠0) :
    Calls Tryz.prog 41 #[.agg #[.int .i64 4,.int .i64 dst,.int .i64 a,.int .i64 b,.int .i64 c],.int .i64 nums,.func (.func 39) #[] #[.pointer (some ⟨bn,0,none⟩)]] w fun e w'=>e=.returned (.int .i64 (1:Int))/\Below w.heap.size w w':=by
 have h:=dK 4 dst a b c P bn w 1 r hd s rfl (by omega)
 have tb:(b != 0)=true:=by simpa using kb
 clear r hd s
 go_enter Tryz.func41,Tryz.ntmps41
 go_wp2_with (first|(go_at_call 11;refine h.mono ?_;rintro e w1 ⟨J,cap,rfl,y,l,j⟩;clear h)|(go_at_call 39;refine l.mono ?_;rintro e w2 ⟨rfl,u⟩;obtain rfl:=u.symm)|(go_at_call 73;refine j.mono ?_;rintro e w2 ⟨rfl,n,k⟩;obtain ⟨Q,D,I,O,U,-⟩:=n.out;clear y l j))
 refine wp_loop_rounds 1 ?_
 rw[rounds_succ]
 go_wp2
 go_ret
 exact ⟨rfl,k.out.alloc k.out.size _⟩
theorem Xe (r:w.cell? ⟨bn,0,none⟩=some (.int .i64 P)) (hd:cR P dst=true) (s:(asks ⟨4,dst,a,b,c⟩).all (cR P)=true)  (kb:b=0) (D:c≠0) :
    Calls Tryz.prog 41 #[.agg #[.int .i64 4,.int .i64 dst,.int .i64 a,.int .i64 b,.int .i64 c],.int .i64 nums,.func (.func 39) #[] #[.pointer (some ⟨bn,0,none⟩)]] w fun e w'=>e=.returned (.int .i64 (1:Int))/\Below w.heap.size w w':=by
 have h:=dK 4 dst a b c P bn w 1 r hd s rfl (by omega)
 subst kb
 have Y:(c != 0)=true:=by simpa using D
 clear r hd s
 go_enter Tryz.func41,Tryz.ntmps41
 go_wp2_with (first|(go_at_call 11;refine h.mono ?_;rintro e w1 ⟨O,cap,rfl,y,l,j⟩;clear h)|(go_at_call 39;refine l.mono ?_;rintro e w2 ⟨rfl,u⟩;obtain rfl:=u.symm)|(go_at_call 73;refine j.mono ?_;rintro e w2 ⟨rfl,n,k⟩;obtain ⟨U,I,J,Q,X,-⟩:=n.out;clear y l j))
 refine wp_loop_rounds 2 ?_
 rw[rounds_succ]
 go_wp2
 rw[rounds_succ]
 go_wp2
 go_ret
 exact ⟨rfl,k.out.alloc k.out.size _⟩
theorem Xd (r:w.cell? ⟨bn,0,none⟩=some (.int .i64 P)) (hd:cR P dst=true) (s:(asks ⟨4,dst,a,b,c⟩).all (cR P)=true)  (kb:b=0) (D:c=0) :
    Calls Tryz.prog 41 #[.agg #[.int .i64 4,.int .i64 dst,.int .i64 a,.int .i64 b,.int .i64 c],.int .i64 nums,.func (.func 39) #[] #[.pointer (some ⟨bn,0,none⟩)]] w fun e w'=>e=.returned (.int .i64 (0:Int))/\Below w.heap.size w w':=by
 have h:=dK 4 dst a b c P bn w 1 r hd s rfl (by omega)
 subst kb
 subst D
 clear r hd s
 go_enter Tryz.func41,Tryz.ntmps41
 go_wp2_with (first|(go_at_call 11;refine h.mono ?_;rintro e w1 ⟨O,cap,rfl,y,l,j⟩;clear h)|(go_at_call 39;refine l.mono ?_;rintro e w2 ⟨rfl,u⟩;obtain rfl:=u.symm)|(go_at_call 73;refine j.mono ?_;rintro e w2 ⟨rfl,n,k⟩;obtain ⟨U,I,J,Q,X,-⟩:=n.out;clear y l j))
 refine wp_loop_rounds 3 ?_
 rw[rounds_succ]
 go_wp2
 rw[rounds_succ]
 go_wp2
 rw[rounds_succ]
 go_wp2
 go_ret
 exact ⟨rfl,k.out.alloc k.out.size _⟩
theorem aC0 (r:w.cell? ⟨bn,0,none⟩=some (.int .i64 P)) (hd:cR P dst=true) (s:(asks ⟨5,dst,a,b,c⟩).all (cR P)=true)   (kb:b≠0) :
    Calls Tryz.prog 41 #[.agg #[.int .i64 5,.int .i64 dst,.int .i64 a,.int .i64 b,.int .i64 c],.int .i64 nums,.func (.func 39) #[] #[.pointer (some ⟨bn,0,none⟩)]] w fun e w'=>e=.returned (.int .i64 (1:Int))/\Below w.heap.size w w':=by
 have h:=dK 5 dst a b c P bn w 1 r hd s rfl (by omega)
 have tb:(b != 0)=true:=by simpa using kb
 clear r hd s
 go_enter Tryz.func41,Tryz.ntmps41
 go_wp2_with (first|(go_at_call 11;refine h.mono ?_;rintro e w1 ⟨J,cap,rfl,y,l,j⟩;clear h)|(go_at_call 39;refine l.mono ?_;rintro e w2 ⟨rfl,u⟩;obtain rfl:=u.symm)|(go_at_call 73;refine j.mono ?_;rintro e w2 ⟨rfl,n,k⟩;obtain ⟨Q,D,I,O,U,-⟩:=n.out;clear y l j))
 refine wp_loop_rounds 1 ?_
 rw[rounds_succ]
 go_wp2
 go_ret
 exact ⟨rfl,k.out.alloc k.out.size _⟩
theorem Xc (r:w.cell? ⟨bn,0,none⟩=some (.int .i64 P)) (hd:cR P dst=true) (s:(asks ⟨5,dst,a,b,c⟩).all (cR P)=true)  (kb:b=0) (D:c≠0) :
    Calls Tryz.prog 41 #[.agg #[.int .i64 5,.int .i64 dst,.int .i64 a,.int .i64 b,.int .i64 c],.int .i64 nums,.func (.func 39) #[] #[.pointer (some ⟨bn,0,none⟩)]] w fun e w'=>e=.returned (.int .i64 (1:Int))/\Below w.heap.size w w':=by
 have h:=dK 5 dst a b c P bn w 1 r hd s rfl (by omega)
 subst kb
 have Y:(c != 0)=true:=by simpa using D
 clear r hd s
 go_enter Tryz.func41,Tryz.ntmps41
 go_wp2_with (first|(go_at_call 11;refine h.mono ?_;rintro e w1 ⟨O,cap,rfl,y,l,j⟩;clear h)|(go_at_call 39;refine l.mono ?_;rintro e w2 ⟨rfl,u⟩;obtain rfl:=u.symm)|(go_at_call 73;refine j.mono ?_;rintro e w2 ⟨rfl,n,k⟩;obtain ⟨U,I,J,Q,X,-⟩:=n.out;clear y l j))
 refine wp_loop_rounds 2 ?_
 rw[rounds_succ]
 go_wp2
 rw[rounds_succ]
 go_wp2
 go_ret
 exact ⟨rfl,k.out.alloc k.out.size _⟩
theorem Xb (r:w.cell? ⟨bn,0,none⟩=some (.int .i64 P)) (hd:cR P dst=true) (s:(asks ⟨5,dst,a,b,c⟩).all (cR P)=true)  (kb:b=0) (D:c=0) :
    Calls Tryz.prog 41 #[.agg #[.int .i64 5,.int .i64 dst,.int .i64 a,.int .i64 b,.int .i64 c],.int .i64 nums,.func (.func 39) #[] #[.pointer (some ⟨bn,0,none⟩)]] w fun e w'=>e=.returned (.int .i64 (0:Int))/\Below w.heap.size w w':=by
 have h:=dK 5 dst a b c P bn w 1 r hd s rfl (by omega)
 subst kb
 subst D
 clear r hd s
 go_enter Tryz.func41,Tryz.ntmps41
 go_wp2_with (first|(go_at_call 11;refine h.mono ?_;rintro e w1 ⟨O,cap,rfl,y,l,j⟩;clear h)|(go_at_call 39;refine l.mono ?_;rintro e w2 ⟨rfl,u⟩;obtain rfl:=u.symm)|(go_at_call 73;refine j.mono ?_;rintro e w2 ⟨rfl,n,k⟩;obtain ⟨U,I,J,Q,X,-⟩:=n.out;clear y l j))
 refine wp_loop_rounds 3 ?_
 rw[rounds_succ]
 go_wp2
 rw[rounds_succ]
 go_wp2
 rw[rounds_succ]
 go_wp2
 go_ret
 exact ⟨rfl,k.out.alloc k.out.size _⟩
end
end Nx
end
end Go.Proofs.YthieaobjdpfcoaaGreatDoor
