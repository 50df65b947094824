import Derived.Test.YthieaobjdpfcoaaGreatDoorVNt6
set_option maxRecDepth 100000
set_option maxHeartbeats 2000000
namespace Go.Proofs.YthieaobjdpfcoaaGreatDoor
open Go.Proofs.Tryz (prog)
section
open Go.RowKit
namespace Nx
theorem aM6 (code dst a b c:Int) (w:World) (k:Nat) (j:(aN3 ⟨code,dst,a,b,c⟩).length=k) :
 Calls prog 11 #[.agg #[.int .i64 code,.int .i64 dst,.int .i64 a,.int .i64 b,.int .i64 c]] w fun e w'=>∃ad cap,e=.returned (.slice ad k cap)/\Hid (bH (fun b=>w.heap.size≤b) w' (.slice ad k cap) (aN3 ⟨code,dst,a,b,c⟩))/\Hid (Below w.heap.size w w'):=by
 subst j
 refine (nI code dst a b c w).mono fun e w' ⟨v,he,hi,hb⟩=>?_
 obtain ⟨ad,s,h,cap,rfl,r,l⟩:=hi
 exact ⟨ad,cap,he,⟨ad,s,h,cap,rfl,r,l⟩,hb⟩
section
variable (code dst a b c P:Int) (nums bn:Nat) (w:World)
def uB (w1:World) (q bn:Nat) (code dst a b c P:Int):Prop:=
 w1.cell? ⟨q,0,none⟩=some (.int .i64 code)/\w1.cell? ⟨q,1,none⟩=some (.int .i64 dst)/\w1.cell? ⟨q,2,none⟩=some (.int .i64 a)/\w1.cell? ⟨q,3,none⟩=some (.int .i64 b)/\w1.cell? ⟨q,4,none⟩=some (.int .i64 c)/\w1.cell? ⟨bn,0,none⟩=some (.int .i64 P)
theorem uB.below {w1 w2:World}{q bn:Nat}{code dst a b c P:Int}(h:uB w1 q bn code dst a b c P) (hb:Below w1.heap.size w1 w2):uB w2 q bn code dst a b c P:=
 ⟨bG hb h.1,bG hb h.2.1,bG hb h.2.2.1,bG hb h.2.2.2.1,bG hb h.2.2.2.2.1,bG hb h.2.2.2.2.2⟩
theorem uB.start (hc:w.cell? ⟨bn,0,none⟩=some (.int .i64 P)):uB (w.alloc (.cells #[.int .i64 code,.int .i64 dst,.int .i64 a,.int .i64 b,.int .i64 c] 38)) w.heap.size bn code dst a b c P:=
 ⟨by simp,by simp,by simp,by simp,by simp,bG (aE w _) hc⟩
theorem Kb (h:code<1\/17<code\/code=3) :
 Calls prog 41 #[.agg #[.int .i64 code,.int .i64 dst,.int .i64 a,.int .i64 b,.int .i64 c],.int .i64 nums,.func (.func 39) #[] #[.pointer (some ⟨bn,0,none⟩)]] w fun e w'=>e=.returned (.int .i64 3)/\Below w.heap.size w w':=by
 have j:=fun o=>aE w o
 by_cases h1:code<1
 ·go_enter Tryz.func41,Tryz.ntmps41
  go_wp2
  go_ret
  exact ⟨rfl,j _⟩
 ·by_cases h2:17<code
  ·have k:1≤code:=by omega
   go_enter Tryz.func41,Tryz.ntmps41
   go_wp2
   go_ret
   exact ⟨rfl,j _⟩
  ·obtain rfl:code=3:=by omega
   go_enter Tryz.func41,Tryz.ntmps41
   go_wp2
   go_ret
   exact ⟨rfl,j _⟩
theorem Pb (s:w.cell? ⟨bn,0,none⟩=some (.int .i64 P)) (Q:1≤code) (J:code≤17) (r:code≠3) (hd:cR P dst=false) :
 Calls prog 41 #[.agg #[.int .i64 code,.int .i64 dst,.int .i64 a,.int .i64 b,.int .i64 c],.int .i64 nums,.func (.func 39) #[] #[.pointer (some ⟨bn,0,none⟩)]] w fun e w'=>e=.returned (.int .i64 2)/\Below w.heap.size w w':=by
 have I:(code==3)=false:=by simpa using r
 have D:Hid (∀w1,Below (w.alloc (.cells #[.int .i64 code,.int .i64 dst,.int .i64 a,.int .i64 b,.int .i64 c] 38)).heap.size (w.alloc (.cells #[.int .i64 code,.int .i64 dst,.int .i64 a,.int .i64 b,.int .i64 c] 38)) w1->w1.cell? ⟨w.heap.size,1,none⟩=some (.int .i64 dst)/\(Calls prog 39 #[.int .i64 dst,.pointer (some ⟨bn,0,none⟩)] w1 fun e w'=>e=.returned (.bool false)/\w'=w1)/\Hid (Below w.heap.size w w1)):=fun w1 hb=>by
  have hx:=(uB.start code dst a b c P bn w s).below hb
  have:=tK dst P bn w1 hx.2.2.2.2.2
  rw[hd] at this
  exact ⟨hx.2.1,this,iF (aE w _) hb⟩
 have h:=nI code dst a b c (w.alloc (.cells #[.int .i64 code,.int .i64 dst,.int .i64 a,.int .i64 b,.int .i64 c] 38))
 clear s hd r
 go_enter Tryz.func41,Tryz.ntmps41
 go_wp2_with (first|(go_at_call 11;refine h.mono ?_;rintro e w1 ⟨v,rfl,y,j⟩;obtain ⟨O,k,l⟩:=D.out w1 j;clear y j h)|(go_at_call 39;refine k.mono ?_;rintro e w2 ⟨rfl,u⟩;obtain rfl:=u.symm))
 go_ret
 exact ⟨rfl,l.out⟩
theorem Kc (O:w.cell? ⟨bn,0,none⟩=some (.int .i64 P)) (h1:1≤code) (Z:code≤17) (D:code≠3) (hd:cR P dst=true) (I:(aN3 ⟨code,dst,a,b,c⟩).all (cR P)=false) :
 Calls prog 41 #[.agg #[.int .i64 code,.int .i64 dst,.int .i64 a,.int .i64 b,.int .i64 c],.int .i64 nums,.func (.func 39) #[] #[.pointer (some ⟨bn,0,none⟩)]] w fun e w'=>e=.returned (.int .i64 2)/\Below w.heap.size w w':=by
 have Y:(code==3)=false:=by simpa using D
 have u:(aN3 ⟨code,dst,a,b,c⟩).length≤100000:=by unfold aN3;split<;>(try split)<;>(try split)<;>simp
 have X:Hid (∀w1 v,bH (fun y=>(w.alloc (.cells #[.int .i64 code,.int .i64 dst,.int .i64 a,.int .i64 b,.int .i64 c] 38)).heap.size≤y) w1 v (aN3 ⟨code,dst,a,b,c⟩)->Below (w.alloc (.cells #[.int .i64 code,.int .i64 dst,.int .i64 a,.int .i64 b,.int .i64 c] 38)).heap.size (w.alloc (.cells #[.int .i64 code,.int .i64 dst,.int .i64 a,.int .i64 b,.int .i64 c] 38)) w1->w1.cell? ⟨w.heap.size,1,none⟩=some (.int .i64 dst)/\(Calls prog 39 #[.int .i64 dst,.pointer (some ⟨bn,0,none⟩)] w1 fun e w'=>e=.returned (.bool true)/\w'=w1)/\
     (Calls prog 73 #[v,.func (.func 39) #[] #[.pointer (some ⟨bn,0,none⟩)]] w1 fun e w'=>e=.returned (.bool false)/\Below w.heap.size w w')):=fun w1 v U hb=>by
  have hx:=(uB.start code dst a b c P bn w O).below hb
  have:=tK dst P bn w1 hx.2.2.2.2.2
  rw[hd] at this
  have J:=X7 v _ P bn w1 U u hx.2.2.2.2.2
  rw[I] at J
  exact ⟨hx.2.1,this,J.mono fun e w' ⟨he,hb'⟩=>⟨he,iF (iF (aE w _) hb) hb'⟩⟩
 have h:=nI code dst a b c (w.alloc (.cells #[.int .i64 code,.int .i64 dst,.int .i64 a,.int .i64 b,.int .i64 c] 38))
 clear O hd D I u
 go_enter Tryz.func41,Tryz.ntmps41
 go_wp2_with (first|(go_at_call 11;refine h.mono ?_;rintro e w1 ⟨v,rfl,s,k⟩;obtain ⟨d1,l,j⟩:=X.out w1 v s k;clear s k h)|(go_at_call 39;refine l.mono ?_;rintro e w2 ⟨rfl,Q⟩;obtain rfl:=Q.symm)|(go_at_call 73;refine j.mono ?_;rintro e w2 ⟨rfl,r⟩))
 go_ret
 exact ⟨rfl,r⟩
theorem dK (k:Nat) (s:w.cell? ⟨bn,0,none⟩=some (.int .i64 P)) (hd:cR P dst=true) (l:(aN3 ⟨code,dst,a,b,c⟩).all (cR P)=true) (j:(aN3 ⟨code,dst,a,b,c⟩).length=k) (r:k≤3) :
    (Calls prog 11 #[.agg #[.int .i64 code,.int .i64 dst,.int .i64 a,.int .i64 b,.int .i64 c]] (w.alloc (.cells #[.int .i64 code,.int .i64 dst,.int .i64 a,.int .i64 b,.int .i64 c] 38)) fun e w1=>∃ad cap,e=.returned (.slice ad k cap)/\w1.cell? ⟨w.heap.size,1,none⟩=some (.int .i64 dst)/\(Calls prog 39 #[.int .i64 dst,.pointer (some ⟨bn,0,none⟩)] w1 fun e w'=>e=.returned (.bool true)/\w'=w1)/\
     (Calls prog 73 #[.slice ad k cap,.func (.func 39) #[] #[.pointer (some ⟨bn,0,none⟩)]] w1 fun e w'=>e=.returned (.bool true)/\Hid (uB w' w.heap.size bn code dst a b c P)/\Hid (Below w.heap.size w w'))):=by
 refine (aM6 code dst a b c _ k j).mono fun e w1 ⟨ad,cap,he,hi,hb⟩=>⟨ad,cap,he,?_⟩
 have hx:=(uB.start code dst a b c P bn w s).below hb.out
 have:=tK dst P bn w1 hx.2.2.2.2.2
 rw[hd] at this
 have h:=X7 _ _ P bn w1 hi.out (by omega) hx.2.2.2.2.2
 rw[l] at h
 exact ⟨hx.2.1,this,h.mono fun e w' ⟨he,hb'⟩=>⟨he,hx.below hb',iF (iF (aE w _) hb.out) hb'⟩⟩
end
section
variable (code dst a b c P:Int) (nums bn:Nat) (w:World)
theorem aC6 (u:w.cell? ⟨bn,0,none⟩=some (.int .i64 P)) (hd:cR P dst=true) (h:a<0) :
 Calls prog 41 #[.agg #[.int .i64 1,.int .i64 dst,.int .i64 a,.int .i64 b,.int .i64 c],.int .i64 nums,.func (.func 39) #[] #[.pointer (some ⟨bn,0,none⟩)]] w fun e w'=>e=.returned (.int .i64 (2:Int))/\Below w.heap.size w w':=by
 have j:=dK 1 dst a b c P bn w 0 u hd rfl rfl (by omega)
 clear u hd
 go_enter Tryz.func41,Tryz.ntmps41
 go_wp2_with (first|(go_at_call 11;refine j.mono ?_;rintro e w1 ⟨X,cap,rfl,D,l,k⟩;clear j)|(go_at_call 39;refine l.mono ?_;rintro e w2 ⟨rfl,y⟩;obtain rfl:=y.symm)|(go_at_call 73;refine k.mono ?_;rintro e w2 ⟨rfl,s,r⟩;obtain ⟨I,J,U,O,Q,-⟩:=s.out;clear D l k))
 go_ret
 exact ⟨rfl,r.out⟩
theorem aC7 (u:w.cell? ⟨bn,0,none⟩=some (.int .i64 P)) (hd:cR P dst=true) (h:0≤a) (J:(nums:Int)≤a) :
 Calls prog 41 #[.agg #[.int .i64 1,.int .i64 dst,.int .i64 a,.int .i64 b,.int .i64 c],.int .i64 nums,.func (.func 39) #[] #[.pointer (some ⟨bn,0,none⟩)]] w fun e w'=>e=.returned (.int .i64 (2:Int))/\Below w.heap.size w w':=by
 have j:=dK 1 dst a b c P bn w 0 u hd rfl rfl (by omega)
 clear u hd
 go_enter Tryz.func41,Tryz.ntmps41
 go_wp2_with (first|(go_at_call 11;refine j.mono ?_;rintro e w1 ⟨Y,cap,rfl,D,l,k⟩;clear j)|(go_at_call 39;refine l.mono ?_;rintro e w2 ⟨rfl,y⟩;obtain rfl:=y.symm)|(go_at_call 73;refine k.mono ?_;rintro e w2 ⟨rfl,s,r⟩;obtain ⟨I,O,X,Q,U,-⟩:=s.out;clear D l k))
 go_ret
 exact ⟨rfl,r.out⟩
theorem aJ9 (u:w.cell? ⟨bn,0,none⟩=some (.int .i64 P)) (hd:cR P dst=true) (s:(aN3 ⟨1,dst,a,b,c⟩).all (cR P)=true) (J:0≤a) (O:a<nums)  (kb:b≠0) :
 Calls prog 41 #[.agg #[.int .i64 1,.int .i64 dst,.int .i64 a,.int .i64 b,.int .i64 c],.int .i64 nums,.func (.func 39) #[] #[.pointer (some ⟨bn,0,none⟩)]] w fun e w'=>e=.returned (.int .i64 (1:Int))/\Below w.heap.size w w':=by
 have h:=dK 1 dst a b c P bn w 0 u hd s rfl (by omega)
 have tb:(b != 0)=true:=by simpa using kb
 clear u hd s
 go_enter Tryz.func41,Tryz.ntmps41
 go_wp2_with (first|(go_at_call 11;refine h.mono ?_;rintro e w1 ⟨Z,cap,rfl,D,k,j⟩;clear h)|(go_at_call 39;refine k.mono ?_;rintro e w2 ⟨rfl,y⟩;obtain rfl:=y.symm)|(go_at_call 73;refine j.mono ?_;rintro e w2 ⟨rfl,r,l⟩;obtain ⟨I,Q,Y,U,X,-⟩:=r.out;clear D k j))
 refine wp_loop_rounds 1 ?_
 rw[rounds_succ]
 go_wp2
 go_ret
 exact ⟨rfl,l.out.alloc l.out.size _⟩
theorem aC4 (u:w.cell? ⟨bn,0,none⟩=some (.int .i64 P)) (hd:cR P dst=true) (s:(aN3 ⟨1,dst,a,b,c⟩).all (cR P)=true) (O:0≤a) (Q:a<nums) (kb:b=0) (D:c≠0) :
 Calls prog 41 #[.agg #[.int .i64 1,.int .i64 dst,.int .i64 a,.int .i64 b,.int .i64 c],.int .i64 nums,.func (.func 39) #[] #[.pointer (some ⟨bn,0,none⟩)]] w fun e w'=>e=.returned (.int .i64 (1:Int))/\Below w.heap.size w w':=by
 have h:=dK 1 dst a b c P bn w 0 u hd s rfl (by omega)
 subst kb
 have U:(c != 0)=true:=by simpa using D
 clear u hd s
 go_enter Tryz.func41,Tryz.ntmps41
 go_wp2_with (first|(go_at_call 11;refine h.mono ?_;rintro e w1 ⟨ad,cap,rfl,I,k,j⟩;clear h)|(go_at_call 39;refine k.mono ?_;rintro e w2 ⟨rfl,y⟩;obtain rfl:=y.symm)|(go_at_call 73;refine j.mono ?_;rintro e w2 ⟨rfl,r,l⟩;obtain ⟨J,X,e2,Y,Z,-⟩:=r.out;clear I k j))
 refine wp_loop_rounds 2 ?_
 rw[rounds_succ]
 go_wp2
 rw[rounds_succ]
 go_wp2
 go_ret
 exact ⟨rfl,l.out.alloc l.out.size _⟩
theorem aC3 (u:w.cell? ⟨bn,0,none⟩=some (.int .i64 P)) (hd:cR P dst=true) (s:(aN3 ⟨1,dst,a,b,c⟩).all (cR P)=true) (O:0≤a) (Q:a<nums) (kb:b=0) (D:c=0) :
 Calls prog 41 #[.agg #[.int .i64 1,.int .i64 dst,.int .i64 a,.int .i64 b,.int .i64 c],.int .i64 nums,.func (.func 39) #[] #[.pointer (some ⟨bn,0,none⟩)]] w fun e w'=>e=.returned (.int .i64 (0:Int))/\Below w.heap.size w w':=by
 have h:=dK 1 dst a b c P bn w 0 u hd s rfl (by omega)
 subst kb
 subst D
 clear u hd s
 go_enter Tryz.func41,Tryz.ntmps41
 go_wp2_with (first|(go_at_call 11;refine h.mono ?_;rintro e w1 ⟨ad,cap,rfl,I,k,j⟩;clear h)|(go_at_call 39;refine k.mono ?_;rintro e w2 ⟨rfl,y⟩;obtain rfl:=y.symm)|(go_at_call 73;refine j.mono ?_;rintro e w2 ⟨rfl,r,l⟩;obtain ⟨J,U,Z,X,Y,-⟩:=r.out;clear I k j))
 refine wp_loop_rounds 3 ?_
 rw[rounds_succ]
 go_wp2
 rw[rounds_succ]
 go_wp2
 rw[rounds_succ]
 go_wp2
 go_ret
 exact ⟨rfl,l.out.alloc l.out.size _⟩
theorem aI5 (u:w.cell? ⟨bn,0,none⟩=some (.int .i64 P)) (hd:cR P dst=true) (s:(aN3 ⟨code,dst,a,b,c⟩).all (cR P)=true) (Y:6≤code) (J:code≤16)  (D:c≠0) :
 Calls prog 41 #[.agg #[.int .i64 code,.int .i64 dst,.int .i64 a,.int .i64 b,.int .i64 c],.int .i64 nums,.func (.func 39) #[] #[.pointer (some ⟨bn,0,none⟩)]] w fun e w'=>e=.returned (.int .i64 (1:Int))/\Below w.heap.size w w':=by
 have U:(code==1)=false:=by simp;omega
 have O:(code==3)=false:=by simp;omega
 have h:=dK code dst a b c P bn w 2 u hd s (by unfold aN3;rw[if_neg (by simp;omega),if_pos (by simp;omega)];rfl) (by omega)
 have X:(c != 0)=true:=by simpa using D
 clear u hd s
 go_enter Tryz.func41,Tryz.ntmps41
 go_wp2_with (first|(go_at_call 11;refine h.mono ?_;rintro e w1 ⟨ad,cap,rfl,I,k,j⟩;clear h)|(go_at_call 39;refine k.mono ?_;rintro e w2 ⟨rfl,y⟩;obtain rfl:=y.symm)|(go_at_call 73;refine j.mono ?_;rintro e w2 ⟨rfl,r,l⟩;obtain ⟨Q,Z,e2,e3,e4,-⟩:=r.out;clear I k j))
 refine wp_loop_rounds 1 ?_
 rw[rounds_succ]
 go_wp2
 go_ret
 exact ⟨rfl,l.out.alloc l.out.size _⟩
theorem aI3 (u:w.cell? ⟨bn,0,none⟩=some (.int .i64 P)) (hd:cR P dst=true) (s:(aN3 ⟨code,dst,a,b,c⟩).all (cR P)=true) (X:6≤code) (J:code≤16) (D:c=0) :
 Calls prog 41 #[.agg #[.int .i64 code,.int .i64 dst,.int .i64 a,.int .i64 b,.int .i64 c],.int .i64 nums,.func (.func 39) #[] #[.pointer (some ⟨bn,0,none⟩)]] w fun e w'=>e=.returned (.int .i64 (0:Int))/\Below w.heap.size w w':=by
 have U:(code==1)=false:=by simp;omega
 have O:(code==3)=false:=by simp;omega
 have h:=dK code dst a b c P bn w 2 u hd s (by unfold aN3;rw[if_neg (by simp;omega),if_pos (by simp;omega)];rfl) (by omega)
 subst D
 clear u hd s
 go_enter Tryz.func41,Tryz.ntmps41
 go_wp2_with (first|(go_at_call 11;refine h.mono ?_;rintro e w1 ⟨ad,cap,rfl,I,k,j⟩;clear h)|(go_at_call 39;refine k.mono ?_;rintro e w2 ⟨rfl,y⟩;obtain rfl:=y.symm)|(go_at_call 73;refine j.mono ?_;rintro e w2 ⟨rfl,r,l⟩;obtain ⟨Q,Y,e2,Z,e4,-⟩:=r.out;clear I k j))
 refine wp_loop_rounds 2 ?_
 rw[rounds_succ]
 go_wp2
 rw[rounds_succ]
 go_wp2
 go_ret
 exact ⟨rfl,l.out.alloc l.out.size _⟩
theorem aJ0 (u:w.cell? ⟨bn,0,none⟩=some (.int .i64 P)) (hd:cR P dst=true) (s:(aN3 ⟨17,dst,a,b,c⟩).all (cR P)=true)   :
 Calls prog 41 #[.agg #[.int .i64 17,.int .i64 dst,.int .i64 a,.int .i64 b,.int .i64 c],.int .i64 nums,.func (.func 39) #[] #[.pointer (some ⟨bn,0,none⟩)]] w fun e w'=>e=.returned (.int .i64 (0:Int))/\Below w.heap.size w w':=by
 have h:=dK 17 dst a b c P bn w 3 u hd s rfl (by omega)
 clear u hd s
 go_enter Tryz.func41,Tryz.ntmps41
 go_wp2_with (first|(go_at_call 11;refine h.mono ?_;rintro e w1 ⟨X,cap,rfl,D,k,j⟩;clear h)|(go_at_call 39;refine k.mono ?_;rintro e w2 ⟨rfl,y⟩;obtain rfl:=y.symm)|(go_at_call 73;refine j.mono ?_;rintro e w2 ⟨rfl,r,l⟩;obtain ⟨I,J,U,O,Q,-⟩:=r.out;clear D k j))
 refine wp_loop_rounds 1 ?_
 rw[rounds_succ]
 go_wp2
 go_ret
 exact ⟨rfl,l.out.alloc l.out.size _⟩
end
section
variable (dst a b c P:Int) (nums bn:Nat) (w:World)
theorem aC2 (u:w.cell? ⟨bn,0,none⟩=some (.int .i64 P)) (hd:cR P dst=true) (s:(aN3 ⟨2,dst,a,b,c⟩).all (cR P)=true)   (kb:b≠0) :
 Calls prog 41 #[.agg #[.int .i64 2,.int .i64 dst,.int .i64 a,.int .i64 b,.int .i64 c],.int .i64 nums,.func (.func 39) #[] #[.pointer (some ⟨bn,0,none⟩)]] w fun e w'=>e=.returned (.int .i64 (1:Int))/\Below w.heap.size w w':=by
 have h:=dK 2 dst a b c P bn w 1 u hd s rfl (by omega)
 have tb:(b != 0)=true:=by simpa using kb
 clear u hd s
 go_enter Tryz.func41,Tryz.ntmps41
 go_wp2_with (first|(go_at_call 11;refine h.mono ?_;rintro e w1 ⟨X,cap,rfl,D,k,j⟩;clear h)|(go_at_call 39;refine k.mono ?_;rintro e w2 ⟨rfl,y⟩;obtain rfl:=y.symm)|(go_at_call 73;refine j.mono ?_;rintro e w2 ⟨rfl,r,l⟩;obtain ⟨I,J,U,O,Q,-⟩:=r.out;clear D k j))
 refine wp_loop_rounds 1 ?_
 rw[rounds_succ]
 go_wp2
 go_ret
 exact ⟨rfl,l.out.alloc l.out.size _⟩
theorem Xg (u:w.cell? ⟨bn,0,none⟩=some (.int .i64 P)) (hd:cR P dst=true) (s:(aN3 ⟨2,dst,a,b,c⟩).all (cR P)=true)  (kb:b=0) (D:c≠0) :
 Calls prog 41 #[.agg #[.int .i64 2,.int .i64 dst,.int .i64 a,.int .i64 b,.int .i64 c],.int .i64 nums,.func (.func 39) #[] #[.pointer (some ⟨bn,0,none⟩)]] w fun e w'=>e=.returned (.int .i64 (1:Int))/\Below w.heap.size w w':=by
 have h:=dK 2 dst a b c P bn w 1 u hd s rfl (by omega)
 subst kb
 have O:(c != 0)=true:=by simpa using D
 clear u hd s
 go_enter Tryz.func41,Tryz.ntmps41
 go_wp2_with (first|(go_at_call 11;refine h.mono ?_;rintro e w1 ⟨Z,cap,rfl,I,k,j⟩;clear h)|(go_at_call 39;refine k.mono ?_;rintro e w2 ⟨rfl,y⟩;obtain rfl:=y.symm)|(go_at_call 73;refine j.mono ?_;rintro e w2 ⟨rfl,r,l⟩;obtain ⟨J,Q,Y,U,X,-⟩:=r.out;clear I k j))
 refine wp_loop_rounds 2 ?_
 rw[rounds_succ]
 go_wp2
 rw[rounds_succ]
 go_wp2
 go_ret
 exact ⟨rfl,l.out.alloc l.out.size _⟩
theorem Xf (u:w.cell? ⟨bn,0,none⟩=some (.int .i64 P)) (hd:cR P dst=true) (s:(aN3 ⟨2,dst,a,b,c⟩).all (cR P)=true)  (kb:b=0) (D:c=0) :
 Calls prog 41 #[.agg #[.int .i64 2,.int .i64 dst,.int .i64 a,.int .i64 b,.int .i64 c],.int .i64 nums,.func (.func 39) #[] #[.pointer (some ⟨bn,0,none⟩)]] w fun e w'=>e=.returned (.int .i64 (0:Int))/\Below w.heap.size w w':=by
 have h:=dK 2 dst a b c P bn w 1 u hd s rfl (by omega)
 subst kb
 subst D
 clear u hd s
 go_enter Tryz.func41,Tryz.ntmps41
 go_wp2_with (first|(go_at_call 11;refine h.mono ?_;rintro e w1 ⟨Y,cap,rfl,I,k,j⟩;clear h)|(go_at_call 39;refine k.mono ?_;rintro e w2 ⟨rfl,y⟩;obtain rfl:=y.symm)|(go_at_call 73;refine j.mono ?_;rintro e w2 ⟨rfl,r,l⟩;obtain ⟨J,O,X,Q,U,-⟩:=r.out;clear I k j))
 refine wp_loop_rounds 3 ?_
 rw[rounds_succ]
 go_wp2
 rw[rounds_succ]
 go_wp2
 rw[rounds_succ]
 go_wp2
 go_ret
 exact ⟨rfl,l.out.alloc l.out.size _⟩
theorem aC1 (u:w.cell? ⟨bn,0,none⟩=some (.int .i64 P)) (hd:cR P dst=true) (s:(aN3 ⟨4,dst,a,b,c⟩).all (cR P)=true)   (kb:b≠0) :
 Calls prog 41 #[.agg #[.int .i64 4,.int .i64 dst,.int .i64 a,.int .i64 b,.int .i64 c],.int .i64 nums,.func (.func 39) #[] #[.pointer (some ⟨bn,0,none⟩)]] w fun e w'=>e=.returned (.int .i64 (1:Int))/\Below w.heap.size w w':=by
 have h:=dK 4 dst a b c P bn w 1 u hd s rfl (by omega)
 have tb:(b != 0)=true:=by simpa using kb
 clear u hd s
 go_enter Tryz.func41,Tryz.ntmps41
 go_wp2_with (first|(go_at_call 11;refine h.mono ?_;rintro e w1 ⟨X,cap,rfl,D,k,j⟩;clear h)|(go_at_call 39;refine k.mono ?_;rintro e w2 ⟨rfl,y⟩;obtain rfl:=y.symm)|(go_at_call 73;refine j.mono ?_;rintro e w2 ⟨rfl,r,l⟩;obtain ⟨I,J,U,O,Q,-⟩:=r.out;clear D k j))
 refine wp_loop_rounds 1 ?_
 rw[rounds_succ]
 go_wp2
 go_ret
 exact ⟨rfl,l.out.alloc l.out.size _⟩
theorem Xe (u:w.cell? ⟨bn,0,none⟩=some (.int .i64 P)) (hd:cR P dst=true) (s:(aN3 ⟨4,dst,a,b,c⟩).all (cR P)=true)  (kb:b=0) (D:c≠0) :
 Calls prog 41 #[.agg #[.int .i64 4,.int .i64 dst,.int .i64 a,.int .i64 b,.int .i64 c],.int .i64 nums,.func (.func 39) #[] #[.pointer (some ⟨bn,0,none⟩)]] w fun e w'=>e=.returned (.int .i64 (1:Int))/\Below w.heap.size w w':=by
 have h:=dK 4 dst a b c P bn w 1 u hd s rfl (by omega)
 subst kb
 have O:(c != 0)=true:=by simpa using D
 clear u hd s
 go_enter Tryz.func41,Tryz.ntmps41
 go_wp2_with (first|(go_at_call 11;refine h.mono ?_;rintro e w1 ⟨Z,cap,rfl,I,k,j⟩;clear h)|(go_at_call 39;refine k.mono ?_;rintro e w2 ⟨rfl,y⟩;obtain rfl:=y.symm)|(go_at_call 73;refine j.mono ?_;rintro e w2 ⟨rfl,r,l⟩;obtain ⟨J,Q,Y,U,X,-⟩:=r.out;clear I k j))
 refine wp_loop_rounds 2 ?_
 rw[rounds_succ]
 go_wp2
 rw[rounds_succ]
 go_wp2
 go_ret
 exact ⟨rfl,l.out.alloc l.out.size _⟩
theorem Xd (u:w.cell? ⟨bn,0,none⟩=some (.int .i64 P)) (hd:cR P dst=true) (s:(aN3 ⟨4,dst,a,b,c⟩).all (cR P)=true)  (kb:b=0) (D:c=0) :
 Calls prog 41 #[.agg #[.int .i64 4,.int .i64 dst,.int .i64 a,.int .i64 b,.int .i64 c],.int .i64 nums,.func (.func 39) #[] #[.pointer (some ⟨bn,0,none⟩)]] w fun e w'=>e=.returned (.int .i64 (0:Int))/\Below w.heap.size w w':=by
 have h:=dK 4 dst a b c P bn w 1 u hd s rfl (by omega)
 subst kb
 subst D
 clear u hd s
 go_enter Tryz.func41,Tryz.ntmps41
 go_wp2_with (first|(go_at_call 11;refine h.mono ?_;rintro e w1 ⟨Y,cap,rfl,I,k,j⟩;clear h)|(go_at_call 39;refine k.mono ?_;rintro e w2 ⟨rfl,y⟩;obtain rfl:=y.symm)|(go_at_call 73;refine j.mono ?_;rintro e w2 ⟨rfl,r,l⟩;obtain ⟨J,O,X,Q,U,-⟩:=r.out;clear I k j))
 refine wp_loop_rounds 3 ?_
 rw[rounds_succ]
 go_wp2
 rw[rounds_succ]
 go_wp2
 rw[rounds_succ]
 go_wp2
 go_ret
 exact ⟨rfl,l.out.alloc l.out.size _⟩
theorem aC0 (u:w.cell? ⟨bn,0,none⟩=some (.int .i64 P)) (hd:cR P dst=true) (s:(aN3 ⟨5,dst,a,b,c⟩).all (cR P)=true)   (kb:b≠0) :
 Calls prog 41 #[.agg #[.int .i64 5,.int .i64 dst,.int .i64 a,.int .i64 b,.int .i64 c],.int .i64 nums,.func (.func 39) #[] #[.pointer (some ⟨bn,0,none⟩)]] w fun e w'=>e=.returned (.int .i64 (1:Int))/\Below w.heap.size w w':=by
 have h:=dK 5 dst a b c P bn w 1 u hd s rfl (by omega)
 have tb:(b != 0)=true:=by simpa using kb
 clear u hd s
 go_enter Tryz.func41,Tryz.ntmps41
 go_wp2_with (first|(go_at_call 11;refine h.mono ?_;rintro e w1 ⟨X,cap,rfl,D,k,j⟩;clear h)|(go_at_call 39;refine k.mono ?_;rintro e w2 ⟨rfl,y⟩;obtain rfl:=y.symm)|(go_at_call 73;refine j.mono ?_;rintro e w2 ⟨rfl,r,l⟩;obtain ⟨I,J,U,O,Q,-⟩:=r.out;clear D k j))
 refine wp_loop_rounds 1 ?_
 rw[rounds_succ]
 go_wp2
 go_ret
 exact ⟨rfl,l.out.alloc l.out.size _⟩
theorem Xc (u:w.cell? ⟨bn,0,none⟩=some (.int .i64 P)) (hd:cR P dst=true) (s:(aN3 ⟨5,dst,a,b,c⟩).all (cR P)=true)  (kb:b=0) (D:c≠0) :
 Calls prog 41 #[.agg #[.int .i64 5,.int .i64 dst,.int .i64 a,.int .i64 b,.int .i64 c],.int .i64 nums,.func (.func 39) #[] #[.pointer (some ⟨bn,0,none⟩)]] w fun e w'=>e=.returned (.int .i64 (1:Int))/\Below w.heap.size w w':=by
 have h:=dK 5 dst a b c P bn w 1 u hd s rfl (by omega)
 subst kb
 have O:(c != 0)=true:=by simpa using D
 clear u hd s
 go_enter Tryz.func41,Tryz.ntmps41
 go_wp2_with (first|(go_at_call 11;refine h.mono ?_;rintro e w1 ⟨Z,cap,rfl,I,k,j⟩;clear h)|(go_at_call 39;refine k.mono ?_;rintro e w2 ⟨rfl,y⟩;obtain rfl:=y.symm)|(go_at_call 73;refine j.mono ?_;rintro e w2 ⟨rfl,r,l⟩;obtain ⟨J,Q,Y,U,X,-⟩:=r.out;clear I k j))
 refine wp_loop_rounds 2 ?_
 rw[rounds_succ]
 go_wp2
 rw[rounds_succ]
 go_wp2
 go_ret
 exact ⟨rfl,l.out.alloc l.out.size _⟩
theorem Xb (u:w.cell? ⟨bn,0,none⟩=some (.int .i64 P)) (hd:cR P dst=true) (s:(aN3 ⟨5,dst,a,b,c⟩).all (cR P)=true)  (kb:b=0) (D:c=0) :
 Calls prog 41 #[.agg #[.int .i64 5,.int .i64 dst,.int .i64 a,.int .i64 b,.int .i64 c],.int .i64 nums,.func (.func 39) #[] #[.pointer (some ⟨bn,0,none⟩)]] w fun e w'=>e=.returned (.int .i64 (0:Int))/\Below w.heap.size w w':=by
 have h:=dK 5 dst a b c P bn w 1 u hd s rfl (by omega)
 subst kb
 subst D
 clear u hd s
 go_enter Tryz.func41,Tryz.ntmps41
 go_wp2_with (first|(go_at_call 11;refine h.mono ?_;rintro e w1 ⟨Y,cap,rfl,I,k,j⟩;clear h)|(go_at_call 39;refine k.mono ?_;rintro e w2 ⟨rfl,y⟩;obtain rfl:=y.symm)|(go_at_call 73;refine j.mono ?_;rintro e w2 ⟨rfl,r,l⟩;obtain ⟨J,O,X,Q,U,-⟩:=r.out;clear I k j))
 refine wp_loop_rounds 3 ?_
 rw[rounds_succ]
 go_wp2
 rw[rounds_succ]
 go_wp2
 rw[rounds_succ]
 go_wp2
 go_ret
 exact ⟨rfl,l.out.alloc l.out.size _⟩
end
structure jB (n:Nt):Prop where
 p:n.places≤4000
 c:n.code.length≤4000
 m:n.nums.length≤4000
 s:n.ins.length+n.outs.length+n.keeps.length≤4000
theorem Ba (x0 x1 x2 x3:Int) (w:World):(Instr.index 138 (.agg #[.int .i64 x0,.int .i64 x1,.int .i64 x2,.int .i64 x3]) (.int .i64 0)).run prog w=.ok (.int .i64 x0) w:=by kernel_rfl
theorem Fq (x0 x1 x2 x3:Int) (w:World):(Instr.index 138 (.agg #[.int .i64 x0,.int .i64 x1,.int .i64 x2,.int .i64 x3]) (.int .i64 1)).run prog w=.ok (.int .i64 x1) w:=by kernel_rfl
theorem Fp (x0 x1 x2 x3:Int) (w:World):(Instr.index 138 (.agg #[.int .i64 x0,.int .i64 x1,.int .i64 x2,.int .i64 x3]) (.int .i64 2)).run prog w=.ok (.int .i64 x2) w:=by kernel_rfl
theorem Fo (x0 x1 x2 x3:Int) (w:World):(Instr.index 138 (.agg #[.int .i64 x0,.int .i64 x1,.int .i64 x2,.int .i64 x3]) (.int .i64 3)).run prog w=.ok (.int .i64 x3) w:=by kernel_rfl
theorem Mf (x0 x1 x2:Value) (w:World):(Instr.index 81 (.agg #[x0,x1,x2]) (.int .i64 0)).run prog w=.ok x0 w:=by kernel_rfl
theorem Me (x0 x1 x2:Value) (w:World):(Instr.index 81 (.agg #[x0,x1,x2]) (.int .i64 1)).run prog w=.ok x1 w:=by kernel_rfl
theorem Md (x0 x1 x2:Value) (w:World):(Instr.index 81 (.agg #[x0,x1,x2]) (.int .i64 2)).run prog w=.ok x2 w:=by kernel_rfl
section
variable {A:Nat->Prop}(n:Nt) (bn:Nat) (w:World) (aq bt bx bK cK d9:Option Addr) (dg dv el et ex fd:Nat)
abbrev wN:World:=w.alloc (.cells #[.int .i64 n.places,.slice aq n.first.length dg,.slice bt n.ins.length dv,.slice bx n.outs.length el,.slice bK n.keeps.length et,.slice cK n.nums.length ex,.slice d9 n.code.length fd] 26)
theorem dZ (v:Value) (zs:List Int) (l:bH A w v zs) (j:zs.length≤4000) (s:w.cell? ⟨bn,0,none⟩=some (.int .i64 n.places)) (w0 w1:World) (r:Below w.heap.size w w0) (hb:Below w0.heap.size w0 w1) :
 Calls prog 73 #[v,.func (.func 39) #[] #[.pointer (some ⟨bn,0,none⟩)]] w1 fun e w'=>e=.returned (.bool (zs.all (cR n.places)))/\Below w0.heap.size w0 w':=by
 have h:=iF r hb
 exact (X7 v zs n.places bn w1 (l.carry fun b k j=>⟨k,h.block b j⟩) (by omega) (bG h s)).mono fun e w' ⟨he,hb2⟩=>⟨he,iF hb hb2⟩
theorem lE (w1:World) (hb:Below (wN n w aq bt bx bK cK d9 dg dv el et ex fd).heap.size (wN n w aq bt bx bK cK d9 dg dv el et ex fd) w1):w1.cell? ⟨w.heap.size,0,none⟩=some (.int .i64 n.places)/\w1.cell? ⟨w.heap.size,2,none⟩=some (.slice bt n.ins.length dv):=
 ⟨bG hb (by simp),bG hb (by simp)⟩
theorem Jh (h:n.places<0) :
 Calls prog 40 #[.agg #[.int .i64 n.places,.slice aq n.first.length dg,.slice bt n.ins.length dv,.slice bx n.outs.length el,.slice bK n.keeps.length et,.slice cK n.nums.length ex,.slice d9 n.code.length fd],.func (.func 39) #[] #[.pointer (some ⟨bn,0,none⟩)]] w fun e w'=>e=.returned (.int .i64 (4:Int))/\Below w.heap.size w w':=by
 go_enter Tryz.func40,Tryz.ntmps40
 go_wp2
 go_ret
 exact ⟨rfl,aE w _⟩
theorem Df (h:jB n) (U:0≤n.places) (j:(n.first.length:Int)≠n.places) :
 Calls prog 40 #[.agg #[.int .i64 n.places,.slice aq n.first.length dg,.slice bt n.ins.length dv,.slice bx n.outs.length el,.slice bK n.keeps.length et,.slice cK n.nums.length ex,.slice d9 n.code.length fd],.func (.func 39) #[] #[.pointer (some ⟨bn,0,none⟩)]] w fun e w'=>e=.returned (.int .i64 (3:Int))/\Below w.heap.size w w':=by
 have r:=Ba;have J:=Fq;have Y:=Fp;have X:=Fo;have O:=Mf;have I:=Me;have k:=Md
 have Q:=h.p;have y:=h.c;have l:=h.m;have u:=h.s
 have D:((n.first.length:Int) != n.places)=true:=by simpa using j
 clear j h
 go_enter Tryz.func40,Tryz.ntmps40
 go_wp2
 refine wp_loop_rounds 5 ?_
 rw[rounds_succ]
 go_wp2
 rw[rounds_succ]
 go_wp2
 rw[rounds_succ]
 go_wp2
 rw[rounds_succ]
 go_wp2
 rw[rounds_succ]
 go_wp2
 go_ret
 exact ⟨rfl,aE w _⟩
theorem Ji (h:jB n) (U:0≤n.places) (k:(n.first.length:Int)=n.places) (u:w.cell? ⟨bn,0,none⟩=some (.int .i64 n.places)) (l:bH A w (.slice bt n.ins.length dv) n.ins) (r:n.ins.all (cR n.places)=false) :
 Calls prog 40 #[.agg #[.int .i64 n.places,.slice aq n.first.length dg,.slice bt n.ins.length dv,.slice bx n.outs.length el,.slice bK n.keeps.length et,.slice cK n.nums.length ex,.slice d9 n.code.length fd],.func (.func 39) #[] #[.pointer (some ⟨bn,0,none⟩)]] w fun e w'=>e=.returned (.int .i64 (2:Int))/\Below w.heap.size w w':=by
 have D:=Ba;have q1:=Fq;have q2:=Fp;have q3:=Fo;have r0:=Mf;have O:=Me;have Y:=Md
 have Q:=h.p;have s2:=h.c;have Z:=h.m;have I:=h.s
 have J:((n.first.length:Int) != n.places)=false:=by simpa using k
 have X:Hid (∀w1,Below (wN n w aq bt bx bK cK d9 dg dv el et ex fd).heap.size (wN n w aq bt bx bK cK d9 dg dv el et ex fd) w1->w1.cell? ⟨w.heap.size,0,none⟩=some (.int .i64 n.places)/\w1.cell? ⟨w.heap.size,2,none⟩=some (.slice bt n.ins.length dv)):=lE n w aq bt bx bK cK d9 dg dv el et ex fd
 have y:Hid (∀w1,Below (wN n w aq bt bx bK cK d9 dg dv el et ex fd).heap.size (wN n w aq bt bx bK cK d9 dg dv el et ex fd) w1->Calls prog 73 #[.slice bt n.ins.length dv,.func (.func 39) #[] #[.pointer (some ⟨bn,0,none⟩)]] w1 fun e w'=>e=.returned (.bool false)/\Below (wN n w aq bt bx bK cK d9 dg dv el et ex fd).heap.size (wN n w aq bt bx bK cK d9 dg dv el et ex fd) w'):=fun w1 hb=>by
  have:=dZ n bn w _ n.ins l (by omega) u _ w1 (aE w _) hb
  rw[r] at this
  exact this
 clear k h u l r
 go_enter Tryz.func40,Tryz.ntmps40
 go_wp2
 refine wp_loop_rounds 5 ?_
 rw[rounds_succ]
 go_wp2
 rw[rounds_succ]
 go_wp2
 rw[rounds_succ]
 go_wp2
 rw[rounds_succ]
 go_wp2
 rw[rounds_succ]
 go_wp2
 refine wp_loop_rounds 1 ?_
 rw[rounds_succ]
 go_wp2_with (go_at_call 73;refine (y.out _ (Below.refl _ _)).mono ?_;rintro e w1 ⟨rfl,j⟩)
 go_ret
 exact ⟨rfl,iF (aE w _) j⟩
theorem De (h:jB n) (h0:0≤n.places) (r:(n.first.length:Int)=n.places) (l:w.cell? ⟨bn,0,none⟩=some (.int .i64 n.places)) (u:bH A w (.slice bt n.ins.length dv) n.ins) (y:bH A w (.slice bx n.outs.length el) n.outs) (D:n.ins.all (cR n.places)=true) (I:n.outs.all (cR n.places)=false) :
 Calls prog 40 #[.agg #[.int .i64 n.places,.slice aq n.first.length dg,.slice bt n.ins.length dv,.slice bx n.outs.length el,.slice bK n.keeps.length et,.slice cK n.nums.length ex,.slice d9 n.code.length fd],.func (.func 39) #[] #[.pointer (some ⟨bn,0,none⟩)]] w fun e w'=>e=.returned (.int .i64 (2:Int))/\Below w.heap.size w w':=by
 have Q:=Ba;have q1:=Fq;have q2:=Fp;have q3:=Fo;have r0:=Mf;have Y:=Me;have r2:=Md
 have Z:=h.p;have s2:=h.c;have s3:=h.m;have U:=h.s
 have X:((n.first.length:Int) != n.places)=false:=by simpa using r
 have HW:Hid (∀w1,Below (wN n w aq bt bx bK cK d9 dg dv el et ex fd).heap.size (wN n w aq bt bx bK cK d9 dg dv el et ex fd) w1->w1.cell? ⟨w.heap.size,0,none⟩=some (.int .i64 n.places)/\w1.cell? ⟨w.heap.size,2,none⟩=some (.slice bt n.ins.length dv)):=lE n w aq bt bx bK cK d9 dg dv el et ex fd
 have J:Hid (∀w1,Below (wN n w aq bt bx bK cK d9 dg dv el et ex fd).heap.size (wN n w aq bt bx bK cK d9 dg dv el et ex fd) w1->Calls prog 73 #[.slice bt n.ins.length dv,.func (.func 39) #[] #[.pointer (some ⟨bn,0,none⟩)]] w1 fun e w'=>e=.returned (.bool true)/\Below (wN n w aq bt bx bK cK d9 dg dv el et ex fd).heap.size (wN n w aq bt bx bK cK d9 dg dv el et ex fd) w'):=fun w1 hb=>by
  have:=dZ n bn w _ n.ins u (by omega) l _ w1 (aE w _) hb
  rw[D] at this
  exact this
 have O:Hid (∀w1,Below (wN n w aq bt bx bK cK d9 dg dv el et ex fd).heap.size (wN n w aq bt bx bK cK d9 dg dv el et ex fd) w1->Calls prog 73 #[.slice bx n.outs.length el,.func (.func 39) #[] #[.pointer (some ⟨bn,0,none⟩)]] w1 fun e w'=>e=.returned (.bool false)/\Below (wN n w aq bt bx bK cK d9 dg dv el et ex fd).heap.size (wN n w aq bt bx bK cK d9 dg dv el et ex fd) w'):=fun w1 hb=>by
  have:=dZ n bn w _ n.outs y (by omega) l _ w1 (aE w _) hb
  rw[I] at this
  exact this
 clear r h l u y D I
 go_enter Tryz.func40,Tryz.ntmps40
 go_wp2
 refine wp_loop_rounds 5 ?_
 rw[rounds_succ]
 go_wp2
 rw[rounds_succ]
 go_wp2
 rw[rounds_succ]
 go_wp2
 rw[rounds_succ]
 go_wp2
 rw[rounds_succ]
 go_wp2
 refine wp_loop_rounds 2 ?_
 rw[rounds_succ]
 go_wp2_with (go_at_call 73;refine (J.out _ (Below.refl _ _)).mono ?_;rintro e w1 ⟨rfl,k⟩)
 rw[rounds_succ]
 go_wp2_with (go_at_call 73;refine (O.out _ k).mono ?_;rintro e w2 ⟨rfl,j⟩)
 go_ret
 exact ⟨rfl,iF (aE w _) j⟩
theorem Y6 (h:jB n) (h0:0≤n.places) (u:(n.first.length:Int)=n.places) (j:w.cell? ⟨bn,0,none⟩=some (.int .i64 n.places)) (y:bH A w (.slice bt n.ins.length dv) n.ins) (D:bH A w (.slice bx n.outs.length el) n.outs) (I:bH A w (.slice bK n.keeps.length et) n.keeps) (J:n.ins.all (cR n.places)=true) (Q:n.outs.all (cR n.places)=true) (O:n.keeps.all (cR n.places)=false) :
 Calls prog 40 #[.agg #[.int .i64 n.places,.slice aq n.first.length dg,.slice bt n.ins.length dv,.slice bx n.outs.length el,.slice bK n.keeps.length et,.slice cK n.nums.length ex,.slice d9 n.code.length fd],.func (.func 39) #[] #[.pointer (some ⟨bn,0,none⟩)]] w fun e w'=>e=.returned (.int .i64 (2:Int))/\Below w.heap.size w w':=by
 have Z:=Ba;have q1:=Fq;have q2:=Fp;have q3:=Fo;have r0:=Mf;have r1:=Me;have r2:=Md
 have s1:=h.p;have s2:=h.c;have s3:=h.m;have s4:=h.s
 have t1:((n.first.length:Int) != n.places)=false:=by simpa using u
 have HW:Hid (∀w1,Below (wN n w aq bt bx bK cK d9 dg dv el et ex fd).heap.size (wN n w aq bt bx bK cK d9 dg dv el et ex fd) w1->w1.cell? ⟨w.heap.size,0,none⟩=some (.int .i64 n.places)/\w1.cell? ⟨w.heap.size,2,none⟩=some (.slice bt n.ins.length dv)):=lE n w aq bt bx bK cK d9 dg dv el et ex fd
 have X:Hid (∀w1,Below (wN n w aq bt bx bK cK d9 dg dv el et ex fd).heap.size (wN n w aq bt bx bK cK d9 dg dv el et ex fd) w1->Calls prog 73 #[.slice bt n.ins.length dv,.func (.func 39) #[] #[.pointer (some ⟨bn,0,none⟩)]] w1 fun e w'=>e=.returned (.bool true)/\Below (wN n w aq bt bx bK cK d9 dg dv el et ex fd).heap.size (wN n w aq bt bx bK cK d9 dg dv el et ex fd) w'):=fun w1 hb=>by
  have:=dZ n bn w _ n.ins y (by omega) j _ w1 (aE w _) hb
  rw[J] at this
  exact this
 have Y:Hid (∀w1,Below (wN n w aq bt bx bK cK d9 dg dv el et ex fd).heap.size (wN n w aq bt bx bK cK d9 dg dv el et ex fd) w1->Calls prog 73 #[.slice bx n.outs.length el,.func (.func 39) #[] #[.pointer (some ⟨bn,0,none⟩)]] w1 fun e w'=>e=.returned (.bool true)/\Below (wN n w aq bt bx bK cK d9 dg dv el et ex fd).heap.size (wN n w aq bt bx bK cK d9 dg dv el et ex fd) w'):=fun w1 hb=>by
  have:=dZ n bn w _ n.outs D (by omega) j _ w1 (aE w _) hb
  rw[Q] at this
  exact this
 have U:Hid (∀w1,Below (wN n w aq bt bx bK cK d9 dg dv el et ex fd).heap.size (wN n w aq bt bx bK cK d9 dg dv el et ex fd) w1->Calls prog 73 #[.slice bK n.keeps.length et,.func (.func 39) #[] #[.pointer (some ⟨bn,0,none⟩)]] w1 fun e w'=>e=.returned (.bool false)/\Below (wN n w aq bt bx bK cK d9 dg dv el et ex fd).heap.size (wN n w aq bt bx bK cK d9 dg dv el et ex fd) w'):=fun w1 hb=>by
  have:=dZ n bn w _ n.keeps I (by omega) j _ w1 (aE w _) hb
  rw[O] at this
  exact this
 clear u h j y D I J Q O
 go_enter Tryz.func40,Tryz.ntmps40
 go_wp2
 refine wp_loop_rounds 5 ?_
 rw[rounds_succ]
 go_wp2
 rw[rounds_succ]
 go_wp2
 rw[rounds_succ]
 go_wp2
 rw[rounds_succ]
 go_wp2
 rw[rounds_succ]
 go_wp2
 refine wp_loop_rounds 3 ?_
 rw[rounds_succ]
 go_wp2_with (go_at_call 73;refine (X.out _ (Below.refl _ _)).mono ?_;rintro e w1 ⟨rfl,l⟩)
 rw[rounds_succ]
 go_wp2_with (go_at_call 73;refine (Y.out _ l).mono ?_;rintro e w2 ⟨rfl,k⟩)
 rw[rounds_succ]
 go_wp2_with (go_at_call 73;refine (U.out _ k).mono ?_;rintro e w3 ⟨rfl,r⟩)
 go_ret
 exact ⟨rfl,iF (aE w _) r⟩
theorem Jj (j:jB n) (h0:0≤n.places) (X:(n.first.length:Int)=n.places) (l:w.cell? ⟨bn,0,none⟩=some (.int .i64 n.places)) (r:bH A w (.slice bt n.ins.length dv) n.ins) (Q:bH A w (.slice bx n.outs.length el) n.outs) (J:bH A w (.slice bK n.keeps.length et) n.keeps) (O:n.ins.all (cR n.places)=true) (U:n.outs.all (cR n.places)=true) (Y:n.keeps.all (cR n.places)=true) (I:decide (¬n.ins.Nodup)=true) :
 Calls prog 40 #[.agg #[.int .i64 n.places,.slice aq n.first.length dg,.slice bt n.ins.length dv,.slice bx n.outs.length el,.slice bK n.keeps.length et,.slice cK n.nums.length ex,.slice d9 n.code.length fd],.func (.func 39) #[] #[.pointer (some ⟨bn,0,none⟩)]] w fun e w'=>e=.returned (.int .i64 (9:Int))/\Below w.heap.size w w':=by
 have q0:=Ba;have q1:=Fq;have q2:=Fp;have q3:=Fo;have r0:=Mf;have r1:=Me;have r2:=Md
 have s1:=j.p;have s2:=j.c;have s3:=j.m;have s4:=j.s
 have t1:((n.first.length:Int) != n.places)=false:=by simpa using X
 have HW:Hid (∀w1,Below (wN n w aq bt bx bK cK d9 dg dv el et ex fd).heap.size (wN n w aq bt bx bK cK d9 dg dv el et ex fd) w1->w1.cell? ⟨w.heap.size,0,none⟩=some (.int .i64 n.places)/\w1.cell? ⟨w.heap.size,2,none⟩=some (.slice bt n.ins.length dv)):=lE n w aq bt bx bK cK d9 dg dv el et ex fd
 have cI:Hid (∀w1,Below (wN n w aq bt bx bK cK d9 dg dv el et ex fd).heap.size (wN n w aq bt bx bK cK d9 dg dv el et ex fd) w1->Calls prog 73 #[.slice bt n.ins.length dv,.func (.func 39) #[] #[.pointer (some ⟨bn,0,none⟩)]] w1 fun e w'=>e=.returned (.bool true)/\Below (wN n w aq bt bx bK cK d9 dg dv el et ex fd).heap.size (wN n w aq bt bx bK cK d9 dg dv el et ex fd) w'):=fun w1 hb=>by
  have:=dZ n bn w _ n.ins r (by omega) l _ w1 (aE w _) hb
  rw[O] at this
  exact this
 have cO:Hid (∀w1,Below (wN n w aq bt bx bK cK d9 dg dv el et ex fd).heap.size (wN n w aq bt bx bK cK d9 dg dv el et ex fd) w1->Calls prog 73 #[.slice bx n.outs.length el,.func (.func 39) #[] #[.pointer (some ⟨bn,0,none⟩)]] w1 fun e w'=>e=.returned (.bool true)/\Below (wN n w aq bt bx bK cK d9 dg dv el et ex fd).heap.size (wN n w aq bt bx bK cK d9 dg dv el et ex fd) w'):=fun w1 hb=>by
  have:=dZ n bn w _ n.outs Q (by omega) l _ w1 (aE w _) hb
  rw[U] at this
  exact this
 have Z:Hid (∀w1,Below (wN n w aq bt bx bK cK d9 dg dv el et ex fd).heap.size (wN n w aq bt bx bK cK d9 dg dv el et ex fd) w1->Calls prog 73 #[.slice bK n.keeps.length et,.func (.func 39) #[] #[.pointer (some ⟨bn,0,none⟩)]] w1 fun e w'=>e=.returned (.bool true)/\Below (wN n w aq bt bx bK cK d9 dg dv el et ex fd).heap.size (wN n w aq bt bx bK cK d9 dg dv el et ex fd) w'):=fun w1 hb=>by
  have:=dZ n bn w _ n.keeps J (by omega) l _ w1 (aE w _) hb
  rw[Y] at this
  exact this
 have cT:Hid (∀w1,Below (wN n w aq bt bx bK cK d9 dg dv el et ex fd).heap.size (wN n w aq bt bx bK cK d9 dg dv el et ex fd) w1->Calls prog 74 #[.slice bt n.ins.length dv] w1 fun e w'=>e=.returned (.bool true)/\Below (wN n w aq bt bx bK cK d9 dg dv el et ex fd).heap.size (wN n w aq bt bx bK cK d9 dg dv el et ex fd) w'):=fun w1 hb=>by
  have u:=iF (aE w _) hb
  have:=C5 _ n.ins w1 (r.carry fun b ha hl=>⟨ha,u.block b hl⟩) (by omega)
  rw[I] at this
  exact this.mono fun e w' ⟨he,h⟩=>⟨he,iF hb h⟩
 clear X j l r Q J O U Y I
 go_enter Tryz.func40,Tryz.ntmps40
 go_wp2
 refine wp_loop_rounds 5 ?_
 rw[rounds_succ]
 go_wp2
 rw[rounds_succ]
 go_wp2
 rw[rounds_succ]
 go_wp2
 rw[rounds_succ]
 go_wp2
 rw[rounds_succ]
 go_wp2
 refine wp_loop_rounds 4 ?_
 rw[rounds_succ]
 go_wp2_with (go_at_call 73;refine (cI.out _ (Below.refl _ _)).mono ?_;rintro e w1 ⟨rfl,D⟩)
 rw[rounds_succ]
 go_wp2_with (go_at_call 73;refine (cO.out _ D).mono ?_;rintro e w2 ⟨rfl,h⟩)
 rw[rounds_succ]
 go_wp2_with (go_at_call 73;refine (Z.out _ h).mono ?_;rintro e w3 ⟨rfl,k⟩)
 have dd:=HW.out w3 k
 obtain ⟨d0,d2⟩:=dd
 rw[rounds_succ]
 go_wp2_with (go_at_call 74;refine (cT.out _ k).mono ?_;rintro e w4 ⟨rfl,y⟩)
 go_ret
 exact ⟨rfl,iF (aE w _) y⟩
theorem Dg (j:jB n) (h0:0≤n.places) (X:(n.first.length:Int)=n.places) (l:w.cell? ⟨bn,0,none⟩=some (.int .i64 n.places)) (r:bH A w (.slice bt n.ins.length dv) n.ins) (Q:bH A w (.slice bx n.outs.length el) n.outs) (J:bH A w (.slice bK n.keeps.length et) n.keeps) (O:n.ins.all (cR n.places)=true) (U:n.outs.all (cR n.places)=true) (Y:n.keeps.all (cR n.places)=true) (I:decide (¬n.ins.Nodup)=false) :
 Calls prog 40 #[.agg #[.int .i64 n.places,.slice aq n.first.length dg,.slice bt n.ins.length dv,.slice bx n.outs.length el,.slice bK n.keeps.length et,.slice cK n.nums.length ex,.slice d9 n.code.length fd],.func (.func 39) #[] #[.pointer (some ⟨bn,0,none⟩)]] w fun e w'=>e=.returned (.int .i64 (0:Int))/\Below w.heap.size w w':=by
 have q0:=Ba;have q1:=Fq;have q2:=Fp;have q3:=Fo;have r0:=Mf;have r1:=Me;have r2:=Md
 have s1:=j.p;have s2:=j.c;have s3:=j.m;have s4:=j.s
 have t1:((n.first.length:Int) != n.places)=false:=by simpa using X
 have HW:Hid (∀w1,Below (wN n w aq bt bx bK cK d9 dg dv el et ex fd).heap.size (wN n w aq bt bx bK cK d9 dg dv el et ex fd) w1->w1.cell? ⟨w.heap.size,0,none⟩=some (.int .i64 n.places)/\w1.cell? ⟨w.heap.size,2,none⟩=some (.slice bt n.ins.length dv)):=lE n w aq bt bx bK cK d9 dg dv el et ex fd
 have cI:Hid (∀w1,Below (wN n w aq bt bx bK cK d9 dg dv el et ex fd).heap.size (wN n w aq bt bx bK cK d9 dg dv el et ex fd) w1->Calls prog 73 #[.slice bt n.ins.length dv,.func (.func 39) #[] #[.pointer (some ⟨bn,0,none⟩)]] w1 fun e w'=>e=.returned (.bool true)/\Below (wN n w aq bt bx bK cK d9 dg dv el et ex fd).heap.size (wN n w aq bt bx bK cK d9 dg dv el et ex fd) w'):=fun w1 hb=>by
  have:=dZ n bn w _ n.ins r (by omega) l _ w1 (aE w _) hb
  rw[O] at this
  exact this
 have cO:Hid (∀w1,Below (wN n w aq bt bx bK cK d9 dg dv el et ex fd).heap.size (wN n w aq bt bx bK cK d9 dg dv el et ex fd) w1->Calls prog 73 #[.slice bx n.outs.length el,.func (.func 39) #[] #[.pointer (some ⟨bn,0,none⟩)]] w1 fun e w'=>e=.returned (.bool true)/\Below (wN n w aq bt bx bK cK d9 dg dv el et ex fd).heap.size (wN n w aq bt bx bK cK d9 dg dv el et ex fd) w'):=fun w1 hb=>by
  have:=dZ n bn w _ n.outs Q (by omega) l _ w1 (aE w _) hb
  rw[U] at this
  exact this
 have Z:Hid (∀w1,Below (wN n w aq bt bx bK cK d9 dg dv el et ex fd).heap.size (wN n w aq bt bx bK cK d9 dg dv el et ex fd) w1->Calls prog 73 #[.slice bK n.keeps.length et,.func (.func 39) #[] #[.pointer (some ⟨bn,0,none⟩)]] w1 fun e w'=>e=.returned (.bool true)/\Below (wN n w aq bt bx bK cK d9 dg dv el et ex fd).heap.size (wN n w aq bt bx bK cK d9 dg dv el et ex fd) w'):=fun w1 hb=>by
  have:=dZ n bn w _ n.keeps J (by omega) l _ w1 (aE w _) hb
  rw[Y] at this
  exact this
 have cT:Hid (∀w1,Below (wN n w aq bt bx bK cK d9 dg dv el et ex fd).heap.size (wN n w aq bt bx bK cK d9 dg dv el et ex fd) w1->Calls prog 74 #[.slice bt n.ins.length dv] w1 fun e w'=>e=.returned (.bool false)/\Below (wN n w aq bt bx bK cK d9 dg dv el et ex fd).heap.size (wN n w aq bt bx bK cK d9 dg dv el et ex fd) w'):=fun w1 hb=>by
  have u:=iF (aE w _) hb
  have:=C5 _ n.ins w1 (r.carry fun b ha hl=>⟨ha,u.block b hl⟩) (by omega)
  rw[I] at this
  exact this.mono fun e w' ⟨he,h⟩=>⟨he,iF hb h⟩
 clear X j l r Q J O U Y I
 go_enter Tryz.func40,Tryz.ntmps40
 go_wp2
 refine wp_loop_rounds 5 ?_
 rw[rounds_succ]
 go_wp2
 rw[rounds_succ]
 go_wp2
 rw[rounds_succ]
 go_wp2
 rw[rounds_succ]
 go_wp2
 rw[rounds_succ]
 go_wp2
 refine wp_loop_rounds 4 ?_
 rw[rounds_succ]
 go_wp2_with (go_at_call 73;refine (cI.out _ (Below.refl _ _)).mono ?_;rintro e w1 ⟨rfl,D⟩)
 rw[rounds_succ]
 go_wp2_with (go_at_call 73;refine (cO.out _ D).mono ?_;rintro e w2 ⟨rfl,h⟩)
 rw[rounds_succ]
 go_wp2_with (go_at_call 73;refine (Z.out _ h).mono ?_;rintro e w3 ⟨rfl,k⟩)
 have dd:=HW.out w3 k
 obtain ⟨d0,d2⟩:=dd
 rw[rounds_succ]
 go_wp2_with (go_at_call 74;refine (cT.out _ k).mono ?_;rintro e w4 ⟨rfl,y⟩)
 go_ret
 exact ⟨rfl,iF (aE w _) y⟩
end
theorem Pd (s:Sp) (P:Int) (nums bn:Nat) (w:World) (j:w.cell? ⟨bn,0,none⟩=some (.int .i64 P)) :
 Calls prog 41 #[.agg #[.int .i64 s.code,.int .i64 s.dst,.int .i64 s.a,.int .i64 s.b,.int .i64 s.c],.int .i64 nums,.func (.func 39) #[] #[.pointer (some ⟨bn,0,none⟩)]] w fun e w'=>e=.returned (.int .i64 (eA P nums s:Nat))/\Below w.heap.size w w':=by
 obtain ⟨code,dst,a,b,c⟩:=s
 simp only
 by_cases h:code<1\/17<code\/code=3
 ·have e:eA P nums ⟨code,dst,a,b,c⟩=3:=by unfold eA;rw[if_pos h]
  rw[e];exact Kb code dst a b c nums bn w h
 have O:1≤code:=by omega
 have D:code≤17:=by omega
 have I:code≠3:=by omega
 cases hd:cR P dst with
 | false=>
  have e:eA P nums ⟨code,dst,a,b,c⟩=2:=by unfold eA;rw[if_neg h,if_pos (by simp[hd])]
  rw[e];exact Pb code dst a b c P nums bn w j O D I hd
 | true=>
 cases ha:(aN3 ⟨code,dst,a,b,c⟩).all (cR P) with
 | false=>
  have e:eA P nums ⟨code,dst,a,b,c⟩=2:=by unfold eA;rw[if_neg h,if_pos (by simp only[ha];simp)]
  rw[e];exact Kc code dst a b c P nums bn w j O D I hd ha
 | true=>
 have Q:eA P nums ⟨code,dst,a,b,c⟩=if code=1/\¬(0≤a/\a<nums) then 2 else if ([a,b,c].drop (if code=1 then 1 else (aN3 ⟨code,dst,a,b,c⟩).length)).any (· != 0) then 1 else 0:=by
  unfold eA
  rw[if_neg h,if_neg (by simp only[hd,ha];simp)]
 rw[Q]
 by_cases c1:code=1
 ·subst c1
  by_cases hr:0≤a/\a<nums
  ·rw[if_neg (by simp;omega)]
   obtain ⟨l,u⟩:=hr
   by_cases kb:b=0
   ·by_cases kc:c=0
    ·have:=aC3 dst a b c P nums bn w j hd ha l u kb kc
     subst kb kc;exact this
    ·have:=aC4 dst a b c P nums bn w j hd ha l u kb kc
     have e:([a,b,c].drop (if (1:Int)=1 then 1 else (aN3 ⟨1,dst,a,b,c⟩).length)).any (· != 0)=true:=by simp[kc]
     rw[if_pos e];exact this
   ·have:=aJ9 dst a b c P nums bn w j hd ha l u kb
    have e:([a,b,c].drop (if (1:Int)=1 then 1 else (aN3 ⟨1,dst,a,b,c⟩).length)).any (· != 0)=true:=by simp[kb]
    rw[if_pos e];exact this
  ·rw[if_pos ⟨rfl,hr⟩]
   by_cases l:a<0
   ·exact aC6 dst a b c P nums bn w j hd l
   ·exact aC7 dst a b c P nums bn w j hd (by omega) (by omega)
 rw[if_neg (fun x=>c1 x.1)]
 have one:∀k:Int,code=k->(k=2\/k=4\/k=5)->((([a,b,c].drop (if code=1 then 1 else (aN3 ⟨code,dst,a,b,c⟩).length)).any (· != 0))=(b != 0||c != 0)):=by
  intro k e h
  have y:(aN3 ⟨code,dst,a,b,c⟩).length=1:=by unfold aN3;rw[if_pos (by simp;omega)];rfl
  rw[y,if_neg c1];simp
 by_cases c2:code=2
 ·rw[one 2 c2 (by omega)]
  subst c2
  by_cases kb:b=0
  ·by_cases kc:c=0
   ·have:=Xf dst a b c P nums bn w j hd ha kb kc
    subst kb kc;exact this
   ·rw[if_pos (by simp[kc])];exact Xg dst a b c P nums bn w j hd ha kb kc
  ·rw[if_pos (by simp[kb])];exact aC2 dst a b c P nums bn w j hd ha kb
 by_cases c4:code=4
 ·rw[one 4 c4 (by omega)]
  subst c4
  by_cases kb:b=0
  ·by_cases kc:c=0
   ·have:=Xd dst a b c P nums bn w j hd ha kb kc
    subst kb kc;exact this
   ·rw[if_pos (by simp[kc])];exact Xe dst a b c P nums bn w j hd ha kb kc
  ·rw[if_pos (by simp[kb])];exact aC1 dst a b c P nums bn w j hd ha kb
 by_cases c5:code=5
 ·rw[one 5 c5 (by omega)]
  subst c5
  by_cases kb:b=0
  ·by_cases kc:c=0
   ·have:=Xb dst a b c P nums bn w j hd ha kb kc
    subst kb kc;exact this
   ·rw[if_pos (by simp[kc])];exact Xc dst a b c P nums bn w j hd ha kb kc
  ·rw[if_pos (by simp[kb])];exact aC0 dst a b c P nums bn w j hd ha kb
 by_cases c17:code=17
 ·subst c17
  exact aJ0 dst a b c P nums bn w j hd ha
 have J:6≤code:=by omega
 have r:code≤16:=by omega
 have y:(aN3 ⟨code,dst,a,b,c⟩).length=2:=by unfold aN3;rw[if_neg (by simp;omega),if_pos (by simp;omega)];rfl
 rw[y,if_neg c1]
 by_cases kc:c=0
 ·have:=aI3 code dst a b c P nums bn w j hd ha J r kc
  subst kc;exact this
 ·rw[if_pos (by simp[kc])];exact aI5 code dst a b c P nums bn w j hd ha J r kc
structure eJ (B:Nat) (w:World) (n:Nt) (vF vI vO vK vN vC:Value):Prop where
 f:bH (· < B) w vF n.first
 i:bH (· < B) w vI n.ins
 o:bH (· < B) w vO n.outs
 k:bH (· < B) w vK n.keeps
 m:bH (· < B) w vN n.nums
 c:jA (· < B) w vC n.code
theorem eJ.carry {B B':Nat}{w w':World}{n:Nt}{vF vI vO vK vN vC:Value}(h:eJ B w n vF vI vO vK vN vC) (k:bB (· < B) (· < B') w w'):eJ B' w' n vF vI vO vK vN vC:=
 ⟨h.f.carry k,h.i.carry k,h.o.carry k,h.k.carry k,h.m.carry k,h.c.carry k⟩
theorem eJ.below {B B':Nat}{w w':World}{n:Nt}{vF vI vO vK vN vC:Value}(h:eJ B w n vF vI vO vK vN vC) (hb:Below B w w') (hB:B≤B'):eJ B' w' n vF vI vO vK vN vC:=
 h.carry fun b hl _=>⟨aO5 hl hB,hb.block b hl⟩
theorem qJ (B:Nat) (n:Nt) (bn:Nat) (w:World) (J Q X Y O U:Value) (h:eJ B w n J Q X Y O U) (j:jB n) (u:w.cell? ⟨bn,0,none⟩=some (.int .i64 n.places)) :
 Calls prog 40 #[.agg #[.int .i64 n.places,J,Q,X,Y,O,U],.func (.func 39) #[] #[.pointer (some ⟨bn,0,none⟩)]] w fun e w'=>e=.returned (.int .i64 (dD n:Nat))/\Below w.heap.size w w':=by
 have r:=h.i;have y:=h.o;have I:=h.k
 obtain ⟨aq,_,_,dg,rfl,-,-⟩:=h.f
 obtain ⟨bt,_,_,dv,rfl,-,-⟩:=h.i
 obtain ⟨bx,_,_,el,rfl,-,-⟩:=h.o
 obtain ⟨bK,_,_,et,rfl,-,-⟩:=h.k
 obtain ⟨cK,_,_,ex,rfl,-,-⟩:=h.m
 obtain ⟨d9,_,_,fd,rfl,-,-⟩:=h.c
 have s1:=j.p;have s2:=j.c;have s3:=j.m;have s4:=j.s
 by_cases h0:n.places<0
 ·have e:dD n=4:=by unfold dD;rw[if_pos (.inl h0)]
  rw[e];exact Jh n bn w aq bt bx bK cK d9 dg dv el et ex fd h0
 have l:¬(n.places<0\/4000<n.places\/4000<n.code.length\/4000<n.nums.length\/4000<n.ins.length+n.outs.length+n.keeps.length):=by omega
 by_cases hf:(n.first.length:Int)≠n.places
 ·have e:dD n=3:=by unfold dD;rw[if_neg l,if_pos hf]
  rw[e];exact Df n bn w aq bt bx bK cK d9 dg dv el et ex fd j (by omega) hf
 have D:=hf
 replace hf:(n.first.length:Int)=n.places:=Classical.byContradiction hf
 cases aI:n.ins.all (cR n.places) with
 | false=>
  have e:dD n=2:=by unfold dD;rw[if_neg l,if_neg D,if_pos (by simp only[aI];simp)]
  rw[e];exact Ji n bn w aq bt bx bK cK d9 dg dv el et ex fd j (by omega) hf u r aI
 | true=>
 cases aO:n.outs.all (cR n.places) with
 | false=>
  have e:dD n=2:=by unfold dD;rw[if_neg l,if_neg D,if_pos (by simp only[aO];simp)]
  rw[e];exact De n bn w aq bt bx bK cK d9 dg dv el et ex fd j (by omega) hf u r y aI aO
 | true=>
 cases aK:n.keeps.all (cR n.places) with
 | false=>
  have e:dD n=2:=by unfold dD;rw[if_neg l,if_neg D,if_pos (by simp only[aK];simp)]
  rw[e];exact Y6 n bn w aq bt bx bK cK d9 dg dv el et ex fd j (by omega) hf u r y I aI aO aK
 | true=>
 have Z:dD n=if ¬n.ins.Nodup then 9 else 0:=by unfold dD;rw[if_neg l,if_neg D,if_neg (by simp only[aI,aO,aK];simp)]
 rw[Z]
 by_cases hd:n.ins.Nodup
 ·rw[if_neg (fun x=>x hd)]
  exact Dg n bn w aq bt bx bK cK d9 dg dv el et ex fd j (by omega) hf u r y I aI aO aK (by simpa using hd)
 ·rw[if_pos hd]
  exact Jj n bn w aq bt bx bK cK d9 dg dv el et ex fd j (by omega) hf u r y I aI aO aK (by simpa using hd)
end Nx
end
end Go.Proofs.YthieaobjdpfcoaaGreatDoor
