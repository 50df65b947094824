import Derived.Test.YthieaobjdpfcoaaGreatDoorVTabs
import Derived.Deep.QuietTactic
import Derived.BigQuiet
import Derived.StillTailTactics
set_option maxRecDepth 100000
set_option maxHeartbeats 4000000
namespace Go.Proofs.YthieaobjdpfcoaaGreatDoor
section
open Go.RowKit Px
structure dV where
 rb:Nat
 g:Nat
 cap:Nat
 L:List Lx.fQ
structure Wf (L:List Lx.fQ):Prop where
 pos:0<L.length
 len:L.length≤601
 endk:kd L (L.length-1)=4
 endt:tx L (L.length-1)=[]
 num:∀k,kd L k=2->(∀c∈tx L k,48≤c.toNat/\c.toNat≤57)/\(tx L k).length≤18/\tx L k≠[]
theorem Wf.next {L:List Lx.fQ}(h:Wf L) {i:Nat}(k:i<L.length) (c:tx L i≠[]):i+1<L.length:=by
 rcases aX8 (i+1) L.length with j|j
 ·exact j
 ·have:i=L.length-1:=by omega
  rw[this] at c;exact absurd h.endt c
theorem Wf.nextk {L:List Lx.fQ}(h:Wf L) {i:Nat}(k:i<L.length) (c:kd L i≠4):i+1<L.length:=by
 rcases aX8 (i+1) L.length with j|j
 ·exact j
 ·have:i=L.length-1:=by omega
  rw[this] at c;exact absurd h.endk c
def rdC (C:dV) (i st ins und:Nat):Obj:=.cells #[.slice (some ⟨C.g,0,none⟩) C.L.length C.cap,.int .i64 i,.int .i64 st,.int .i64 ins,.int .i64 und] 121 (0,0)
structure PS (C:dV) (w:World) (i st ins und:Nat):Prop where
 rd:w.heap[C.rb]?=some (rdC C i st ins und)
 tk:∀k t,C.L[k]?=some t->w.cell? ⟨C.g,k*3,none⟩=some (.int .i64 t.kind)/\w.cell? ⟨C.g,k*3+1,none⟩=some (sv t.text)/\w.cell? ⟨C.g,k*3+2,none⟩=some (.int .i64 t.place)
 tab:rD w
 lt:i<C.L.length
 wf:Wf C.L
 gr:C.g<C.rb
 hi:11<C.g
theorem PS.keep {C:dV}{w w':World}{i st ins und i' st' ins' und':Nat}(h:PS C w i st ins und) (r:Fr w.heap.size [C.rb] w w') (u:w'.heap[C.rb]?=some (rdC C i' st' ins' und')) (c:i'<C.L.length):PS C w' i' st' ins' und':=by
 have j:=aB h.rd
 have l:=Nat.lt_trans h.gr j
 have n:w'.heap[C.g]?=w.heap[C.g]?:=r.block _ l (by simp;exact Nat.ne_of_lt h.gr)
 refine ⟨u,fun k t s=>?_,h.tab.keep (fun b hb=>r.block b (by have:=h.hi;omega) (by have:=h.hi;have:=h.gr;simp;omega)),c,h.wf,h.gr,h.hi⟩
 have:=h.tk k t s
 rw[aY4 (w:=w) (a:=⟨C.g,k*3,none⟩) n,aY4 (w:=w) (a:=⟨C.g,k*3+1,none⟩) n,aY4 (w:=w) (a:=⟨C.g,k*3+2,none⟩) n]
 exact this
theorem PS.same {C:dV}{w w':World}{i st ins und:Nat}(h:PS C w i st ins und) (hf:Fr w.heap.size [] w w'):PS C w' i st ins und:=
 h.keep (hf.mono (aN4 _) (by simp)) (by rw[hf.block _ (aB h.rd) (by simp)];exact h.rd) h.lt
theorem PS.cells {C:dV}{w:World}{i st ins und:Nat}(h:PS C w i st ins und) :
    w.cell? ⟨C.rb,0,none⟩=some (.slice (some ⟨C.g,0,none⟩) C.L.length C.cap)/\w.cell? ⟨C.rb,1,none⟩=some (.int .i64 i)/\w.cell? ⟨C.rb,2,none⟩=some (.int .i64 st)/\w.cell? ⟨C.rb,3,none⟩=some (.int .i64 ins)/\w.cell? ⟨C.rb,4,none⟩=some (.int .i64 und):=by
 have:=h.rd
 refine ⟨?_,?_,?_,?_,?_⟩<;>(rw[cell_of_row _ _ _ _ _ _ h.rd];rfl)
theorem PS.frozen {C:dV}{w:World}{i st ins und:Nat}(h:PS C w i st ins und) (o:Nat):w.frozen? ⟨C.rb,o,none⟩=false:=by
 simp[World.frozen?,h.rd,rdC]
theorem Vz {L:List Lx.fQ}{i:Nat}(h:i<L.length):L[i]?=some (Jv L i):=by
 rw[Jv,iO,aN3 h];rfl
theorem PS.now {C:dV}{w:World}{i st ins und:Nat}(h:PS C w i st ins und) :
    w.cell? ⟨C.g,i*3,none⟩=some (.int .i64 (kd C.L i))/\w.cell? ⟨C.g,i*3+1,none⟩=some (sv (tx C.L i))/\w.cell? ⟨C.g,i*3+2,none⟩=some (.int .i64 (pl C.L i)):=h.tk i _ (Vz h.lt)
theorem PS.set {C:dV}{w:World}{i st ins und:Nat}(h:PS C w i st ins und) (o:Nat) (v:Value) {i' st' ins' und':Nat}(k:(#[.slice (some ⟨C.g,0,none⟩) C.L.length C.cap,.int .i64 i,.int .i64 st,.int .i64 ins,.int .i64 und]:Array Value).setIfInBounds o v=#[.slice (some ⟨C.g,0,none⟩) C.L.length C.cap,.int .i64 i',.int .i64 st',.int .i64 ins',.int .i64 und']) (c:i'<C.L.length) :
    PS C (w.setCell ⟨C.rb,o,none⟩ v) i' st' ins' und'/\Fr w.heap.size [C.rb] w (w.setCell ⟨C.rb,o,none⟩ v):=by
 have j:Fr w.heap.size [C.rb] w (w.setCell ⟨C.rb,o,none⟩ v):=(Fr.refl _ _ _).setCell (.inr (by simp)) v
 refine ⟨h.keep j ?_ c,j⟩
 rw[heap_setCell_same w C.rb o _ 121 _ h.rd,k];rfl
def aR (C:dV) (w:World) (f:F) (e:Ending) (w':World):Prop:=
 ∃q,e=.panicked [{ v:=.iface 89 (.pointer (some ⟨q,0,none⟩)),recovered:=false }]/\w'.heap[q]?=some (.cells #[.int .i64 f.1,.int .i64 f.2] 91 (0,0))/\w.heap.size≤q/\Fr w.heap.size [C.rb] w w'
theorem aR.up {C:dV}{w w1 w':World}{f:F}{e:Ending}(c:Fr w.heap.size [C.rb] w w1) (h:aR C w1 f e w'):aR C w f e w':=by
 obtain ⟨q,j,l,k,n⟩:=h
 exact ⟨q,j,l,aO4 c.size k,c.trans (n.mono c.size (by simp))⟩
def vU (C:dV) {α:Type}(ok:α->Value->World->Prop) (w:World) (r:Except F α) (e:Ending) (w':World):Prop:=
 match r with
 | .error f=>aR C w f e w'
 | .ok a=>∃v,e=.returned v/\ok a v w'/\Fr w.heap.size [C.rb] w w'
theorem Fr.up {X:List Nat}{w w1 w2:World}(h:Fr w.heap.size X w w1) (k:Fr w1.heap.size X w1 w2):Fr w.heap.size X w w2:=h.trans (k.mono h.size (fun _ hx _=>hx))
section
variable {C:dV}{w:World}{i st ins und:Nat}
theorem xW (h:PS C w i st ins und):Calls Tryz.prog 106 #[.pointer (some ⟨C.rb,0,none⟩)] w fun e w'=>e=.returned (sv (tx C.L i))/\PS C w' i st ins und/\Fr w.heap.size [] w w':=by
 obtain ⟨c0,c1,-⟩:=h.cells
 obtain ⟨-,l,-⟩:=h.now
 have H:Hid _:=h
 have k:(0:Int)≤(i:Int):=Int.natCast_nonneg _
 have j:(i:Int)<(C.L.length:Int):=by have:=h.lt;omega
 clear h
 go_enter Tryz.func106,Tryz.ntmps106
 go_wp2
 go_quiet (fail)
 go_wp2
 go_ret
 have c:=(Fr.refl w.heap.size [] w).drewN nq
 exact ⟨rfl,H.out.same c,c⟩
theorem gX (h:PS C w i st ins und) (e:Nat):Calls Tryz.prog 111 #[.pointer (some ⟨C.rb,0,none⟩),.int .i64 e] w fun en w'=>aR C w (e,pl C.L i) en w':=by
 obtain ⟨c0,c1,-⟩:=h.cells
 obtain ⟨-,-,l⟩:=h.now
 have j:(0:Int)≤(i:Int):=Int.natCast_nonneg _
 have c:(i:Int)<(C.L.length:Int):=by have:=h.lt;omega
 have k:∀(v:Value) (w:World),(Instr.panic (.iface 89 v)).run Tryz.prog w=.halt (.panic (.iface 89 v)) w:=fun _ _=>rfl
 clear h
 go_enter Tryz.func111,Tryz.ntmps111
 go_wp2
 go_still_tail 13,(by kernel_rfl)
 go_wp2
 exact ⟨rfl,_,rfl,heap_alloc_new w _,aN4 _,((Fr.refl _ _ _).alloc (aN4 _) _).drew⟩
theorem kD (h c:Nat) (k:h<c):Calls Tryz.prog 107 #[.pointer (some ⟨C.rb,0,none⟩),.int .i64 h,.int .i64 c] w fun e w'=>e=.returned (.tuple #[])/\w'=w:=by
 have j:¬(c:Int)≤(h:Int):=by omega
 go_enter Tryz.func107,Tryz.ntmps107
 go_wp2
 go_end0
 exact ⟨rfl,rfl⟩
theorem nZ (h:PS C w i st ins und) (c j:Nat) (l:j≤c):Calls Tryz.prog 107 #[.pointer (some ⟨C.rb,0,none⟩),.int .i64 c,.int .i64 j] w fun e w'=>aR C w (4,pl C.L i) e w':=by
 have n:(j:Int)≤(c:Int):=by omega
 go_enter Tryz.func107,Tryz.ntmps107
 go_wp2_with (go_at_call 111;refine (gX h 4).mono ?_;rintro e w' ⟨q,rfl,k⟩)
 exact ⟨rfl,q,rfl,k⟩
theorem dM (h:PS C w i st ins und) (s:ByteArray) (n:tx C.L i=bs s) (j:bs s≠[]):Calls Tryz.prog 109 #[.pointer (some ⟨C.rb,0,none⟩),.string s] w fun e w'=>e=.returned (.bool true)/\PS C w' (i+1) st ins und/\Fr w.heap.size [C.rb] w w':=by
 have k:=h.wf.next h.lt (by rw[n];exact j)
 have y:=h.wf.len
 have u:(tx C.L i==s.toList)=true:=by
  rw[ByteArray.toList_eq];exact beq_iff_eq.2 n
 clear n j
 go_enter Tryz.func109,Tryz.ntmps109
 go_wp2_with (go_at_call 106;refine (xW h).mono ?_;rintro e w1 ⟨rfl,r,l⟩;obtain ⟨-,c1,-⟩:=r.cells;have z1:=r.frozen 1;rw[sv])
 go_ret
 have c:=r.set 1 (.int .i64 ((i+1:Nat):Int)) (i':=i+1) (st':=st) (ins':=ins) (und':=und) rfl k
 refine ⟨rfl,?_,?_⟩
 ·exact c.1
 ·exact (l.mono (aN4 _) (by simp)).up c.2
theorem cN (h:PS C w i st ins und) (s:ByteArray) (j:tx C.L i≠bs s):Calls Tryz.prog 109 #[.pointer (some ⟨C.rb,0,none⟩),.string s] w fun e w'=>e=.returned (.bool false)/\PS C w' i st ins und/\Fr w.heap.size [] w w':=by
 have l:(tx C.L i==s.toList)=false:=by
  rw[ByteArray.toList_eq];exact beq_eq_false_iff_ne.2 j
 clear j
 go_enter Tryz.func109,Tryz.ntmps109
 go_wp2_with (go_at_call 106;refine (xW h).mono ?_;rintro e w1 ⟨rfl,k,c⟩;rw[sv])
 go_ret
 exact ⟨rfl,k,c⟩
theorem cD (h:PS C w i st ins und) (s:ByteArray) (k:bE) (n:bs s=k) (j:k≠[]):Calls Tryz.prog 101 #[.pointer (some ⟨C.rb,0,none⟩),.string s] w (vU C (fun _ v w'=>v=.tuple #[]/\PS C w' (i+1) st ins und) w (wZ C.L k i)):=by
 subst n
 by_cases hs:tx C.L i=bs s
 ·have H:Hid (wZ C.L (bs s) i=.ok ()):=if_pos hs
  go_enter Tryz.func101,Tryz.ntmps101
  go_wp2_with (go_at_call 109;refine (dM h s hs j).mono ?_;rintro e w1 ⟨rfl,l,c⟩)
  go_end0
  rw[H.out]
  exact ⟨_,rfl,⟨rfl,l⟩,c⟩
 ·have H:Hid (wZ C.L (bs s) i=.error (3,pl C.L i)):=if_neg hs
  go_enter Tryz.func101,Tryz.ntmps101
  go_wp2_with (first
   | (go_at_call 109;refine (cN h s hs).mono ?_;rintro e w1 ⟨rfl,l,c⟩)
   | (go_at_call 111;refine (gX l 3).mono ?_;rintro e w2 ⟨q,rfl,r⟩))
  rw[H.out]
  exact ⟨rfl,aR.up (c.mono (aN4 _) (by simp)) ⟨q,rfl,r⟩⟩
theorem PS.new {C:dV}{w:World}{i st ins und:Nat}(h:PS C w i st ins und) (o:Obj):PS C ((w.alloc o).drew) i st ins und/\Fr w.heap.size [] w ((w.alloc o).drew):=by
 have c:Fr w.heap.size [] w ((w.alloc o).drew):=((Fr.refl _ _ _).alloc (aN4 _) o).drew
 exact ⟨h.same c,c⟩
theorem C7 (w:World) (a b c:Value) (t:TypeId):((w.alloc (.cells #[a,b,c] t)).drew).cell? ⟨w.heap.size,0,none⟩=some a/\((w.alloc (.cells #[a,b,c] t)).drew).cell? ⟨w.heap.size,1,none⟩=some b/\((w.alloc (.cells #[a,b,c] t)).drew).cell? ⟨w.heap.size,2,none⟩=some c:=by simp
theorem PS.step {C:dV}{w:World}{i st ins und:Nat}(h:PS C w i st ins und) (hlt:i+1<C.L.length):PS C (w.setCell ⟨C.rb,1,none⟩ (.int .i64 ((i:Int)+1))) (i+1) st ins und/\Fr w.heap.size [C.rb] w (w.setCell ⟨C.rb,1,none⟩ (.int .i64 ((i:Int)+1))):=h.set 1 _ rfl hlt
theorem PS.back {C:dV}{w:World}{i st ins und:Nat}(h:PS C w (i+1) st ins und):PS C (w.setCell ⟨C.rb,1,none⟩ (.int .i64 (i:Int))) i st ins und/\Fr w.heap.size [C.rb] w (w.setCell ⟨C.rb,1,none⟩ (.int .i64 (i:Int))):=h.set 1 _ rfl (by have:=h.lt;omega)
theorem PS.more {C:dV}{w:World}{i st ins und:Nat}(h:PS C w i st ins und):PS C (w.setCell ⟨C.rb,2,none⟩ (.int .i64 ((st:Int)+1))) i (st+1) ins und/\Fr w.heap.size [C.rb] w (w.setCell ⟨C.rb,2,none⟩ (.int .i64 ((st:Int)+1))):=h.set 2 _ rfl h.lt
theorem PS.into {C:dV}{w:World}{i st ins und:Nat}(h:PS C w i st ins und):PS C (w.setCell ⟨C.rb,3,none⟩ (.int .i64 ((ins:Int)+1))) i st (ins+1) und/\Fr w.heap.size [C.rb] w (w.setCell ⟨C.rb,3,none⟩ (.int .i64 ((ins:Int)+1))):=h.set 3 _ rfl h.lt
theorem PS.outOf {C:dV}{w:World}{i st ins und:Nat}(h:PS C w i st (ins+1) und):PS C (w.setCell ⟨C.rb,3,none⟩ (.int .i64 (ins:Int))) i st ins und/\Fr w.heap.size [C.rb] w (w.setCell ⟨C.rb,3,none⟩ (.int .i64 (ins:Int))):=h.set 3 _ rfl h.lt
theorem PS.down {C:dV}{w:World}{i st ins und:Nat}(h:PS C w i st ins und):PS C (w.setCell ⟨C.rb,4,none⟩ (.int .i64 ((und:Int)+1))) i st ins (und+1)/\Fr w.heap.size [C.rb] w (w.setCell ⟨C.rb,4,none⟩ (.int .i64 ((und:Int)+1))):=h.set 4 _ rfl h.lt
theorem PS.upAgain {C:dV}{w:World}{i st ins und:Nat}(h:PS C w i st ins (und+1)):PS C (w.setCell ⟨C.rb,4,none⟩ (.int .i64 (und:Int))) i st ins und/\Fr w.heap.size [C.rb] w (w.setCell ⟨C.rb,4,none⟩ (.int .i64 (und:Int))):=h.set 4 _ rfl h.lt
theorem PS.lts {C:dV}{w:World}{i st ins und:Nat}(h:PS C w i st ins und):C.rb<w.heap.size/\C.g<w.heap.size:=⟨aB h.rd,Nat.lt_trans h.gr (aB h.rd)⟩
theorem eZ (h:PS C w i st ins und):Calls Tryz.prog 102 #[.pointer (some ⟨C.rb,0,none⟩)] w (vU C (fun s v w'=>v=sv s/\PS C w' (i+1) st ins und) w (nm C.L i)):=by
 obtain ⟨c0,c1,-⟩:=h.cells
 obtain ⟨Z,t1,t2⟩:=h.now
 obtain ⟨l1,l2⟩:=h.lts
 have ab:(0:Int)≤(i:Int):=Int.natCast_nonneg _
 have aa:(i:Int)<(C.L.length:Int):=by have:=h.lt;omega
 have h6:=h.wf.len
 obtain ⟨tb,I⟩:∃tb:ByteArray,Hid (tb=⟨(tx C.L i).toArray⟩):=⟨_,rfl⟩
 have y:Hid (bs tb=tx C.L i):=by rw[Hid,I.out]
 have hsz:Hid (tb.size=(tx C.L i).length):=by rw[Hid,<-y.out];exact (fP tb).symm
 rw[sv,<-I.out] at t1
 by_cases hk1:kd C.L i=1
 ·have j:((kd C.L i:Nat):Int)=1:=by omega
  rw[j] at Z
  have H1:Hid _:=hk1
  clear hk1 j
  by_cases hkw:kw (bs tb)=true
  ·have H:Hid (nm C.L i=.error (3,pl C.L i)):=if_pos (.inr (by rw[<-y.out];exact hkw))
   have O:∀w',rD w'->Calls Tryz.prog 148 #[.string tb] w' fun e D=>e=.returned (.bool true)/\D=w':=fun w' n=>by
    have:=wQ tb w' n;rw[hkw] at this;exact this
   clear hkw
   go_enter Tryz.func102,Tryz.ntmps102
   go_wp2
   go_region
   obtain ⟨k,c⟩:=h.new (.cells #[.int .i64 1,.string tb,.int .i64 (pl C.L i)] 167)
   go_wp2_with (first
    | (go_at_call 148;refine (O _ k.tab).mono ?_;rintro e w1 ⟨rfl,l⟩;obtain rfl:=l.symm)
    | (go_at_call 111;refine (gX k 3).mono ?_;rintro e w2 ⟨q,rfl,n⟩))
   rw[H.out]
   exact ⟨rfl,aR.up (c.mono (aN4 _) (by simp)) ⟨q,rfl,n⟩⟩
  ·have r:kw (bs tb)=false:=by simpa using hkw
   have O:∀w',rD w'->Calls Tryz.prog 148 #[.string tb] w' fun e D=>e=.returned (.bool false)/\D=w':=fun w' n=>by
    have:=wQ tb w' n;rw[r] at this;exact this
   have HK:Hid (¬(kd C.L i≠1\/kw (tx C.L i)=true)):=by
    rw[Hid,<-y.out];rintro (h|h)
    ·exact h H1.out
    ·exact hkw h
   clear hkw r
   by_cases hln:12<tb.size
   ·have H:Hid (nm C.L i=.error (4,pl C.L i)):=by rw[Hid,nm,if_neg HK.out,if_pos (by rw[<-hsz.out];exact hln)]
    have J:(12:Int)<(tb.size:Int):=by omega
    go_enter Tryz.func102,Tryz.ntmps102
    go_wp2
    go_region
    obtain ⟨k,c⟩:=h.new (.cells #[.int .i64 1,.string tb,.int .i64 (pl C.L i)] 167)
    go_wp2_with (first
     | (go_at_call 148;refine (O _ k.tab).mono ?_;rintro e w1 ⟨rfl,l⟩;obtain rfl:=l.symm)
     | (go_at_call 111;refine (gX k 4).mono ?_;rintro e w2 ⟨q,rfl,n⟩))
    rw[H.out]
    exact ⟨rfl,aR.up (c.mono (aN4 _) (by simp)) ⟨q,rfl,n⟩⟩
   ·have H:Hid (nm C.L i=.ok (tx C.L i)):=by rw[Hid,nm,if_neg HK.out,if_neg (by rw[<-hsz.out];exact hln)]
    have J:¬(12:Int)<(tb.size:Int):=by omega
    have Q:=h.wf.nextk h.lt (by rw[H1.out];decide)
    go_enter Tryz.func102,Tryz.ntmps102
    go_wp2
    go_region
    obtain ⟨k,c⟩:=h.new (.cells #[.int .i64 1,.string tb,.int .i64 (pl C.L i)] 167)
    obtain ⟨e0,e1,Y⟩:=C7 w (.int .i64 1) (.string tb) (.int .i64 (pl C.L i)) 167
    generalize (w.alloc (.cells #[.int .i64 1,.string tb,.int .i64 (pl C.L i)] 167)).drew=w1 at k c e0 e1 Y ⊢
    obtain ⟨-,d1,-⟩:=k.cells
    have z1:=k.frozen 1
    have X:¬C.rb=w.heap.size:=by omega
    clear c0 c1 Z t1 t2 Y
    go_wp2_with (first
     | (go_at_call 148;refine (O _ k.tab).mono ?_;rintro e w2 ⟨rfl,l⟩;obtain rfl:=l.symm))
    go_ret
    rw[H.out]
    have u:=k.step Q
    exact ⟨_,rfl,⟨by rw[I.out];rfl,u.1⟩,(c.mono (aN4 _) (by simp)).up u.2⟩
 ·have j:¬((kd C.L i:Nat):Int)=1:=by omega
  have U:(((kd C.L i:Nat):Int) != 1)=true:=by simpa using j
  have H:Hid (nm C.L i=.error (3,pl C.L i)):=if_pos (.inl hk1)
  clear hk1
  go_enter Tryz.func102,Tryz.ntmps102
  go_wp2
  go_region
  obtain ⟨k,c⟩:=h.new (.cells #[.int .i64 (kd C.L i),.string tb,.int .i64 (pl C.L i)] 167)
  go_wp2_with (go_at_call 111;refine (gX k 3).mono ?_;rintro e w2 ⟨q,rfl,n⟩)
  rw[H.out]
  exact ⟨rfl,aR.up (c.mono (aN4 _) (by simp)) ⟨q,rfl,n⟩⟩
end
end
section
open Go.RowKit Px
def Ge (n b:Nat):Prop:=n≤b
theorem vD {C:dV}{n:Nat}{w w':World}(hn:C.rb<n) (hf:Fr w.heap.size [C.rb] w w'):bB (Ge n) (Ge n) w w':=hf.keep (fun b hb=>by simp[Ge] at *;omega)
theorem jR.ge {n m:Nat}{w:World}{e:E}{v:Value}(h:jR (Ge m) w e v) (hn:n≤m):jR (Ge n) w e v:=h.carry (fun _ hb _=>⟨aO4 hn hb,rfl⟩)
theorem xH {A:Nat->Prop}{w w':World}(hf:Fr w.heap.size [] w w'):bB A A w w':=hf.keep (by simp)
def Vp (C:dV) (w:World) (st ins und:Nat) (p:E×Nat) (v:Value) (w':World):Prop:=jR (Ge w.heap.size) w' p.1 v/\PS C w' p.2 st ins und
def Vj (C:dV) (k:Nat):Prop:=∀(w:World) (i st ins und:Nat),und+k=7->PS C w i st ins und->Calls Tryz.prog 249 #[.pointer (some ⟨C.rb,0,none⟩)] w (vU C (Vp C w st ins und) w (one C.L k i))
def zU (C:dV) (k t:Nat):Prop:=∀(w:World) (i st ins und:Nat),und+k=7->PS C w i st ins und->Calls Tryz.prog 242 #[.pointer (some ⟨C.rb,0,none⟩),.int .i64 ((5-t:Nat):Int)] w (vU C (Vp C w st ins und) w (A5 C.L (one C.L k) t i))
theorem eI {C:dV}{w:World}{i st ins und:Nat}(h:PS C w i st ins und) (tb:ByteArray) (c:Hid (bs tb=tx C.L i)):Calls Tryz.prog 106 #[.pointer (some ⟨C.rb,0,none⟩)] w fun e w'=>e=.returned (.string tb)/\PS C w' i st ins und/\Fr w.heap.size [] w w':=by
 refine (xW h).mono ?_
 rintro e w' ⟨rfl,k,j⟩
 exact ⟨by rw[sv,<-c.out],k,j⟩
theorem qA {C:dV}{w:World}{i st ins und:Nat}(h:PS C w i st ins und) (tb:ByteArray) (t c:Nat) (k:t<5) (l:Hid (iP t (bs tb)=c)):Calls Tryz.prog 250 #[.string tb,.int .i64 t] w fun e w'=>e=.returned (.int .i64 c)/\PS C w' i st ins und/\Fr w.heap.size [] w w':=by
 refine (xA tb t k w h.tab).mono ?_
 rintro e w' ⟨rfl,hb⟩
 have j:=Fr.of_below hb []
 exact ⟨by rw[l.out],h.same j,j⟩
theorem vU.cases {C:dV}{α:Type}{ok:α->Value->World->Prop}{w:World}{r:Except F α}{e:Ending}{w':World}(h:vU C ok w r e w'):(∃f,Hid (r=.error f)/\aR C w f e w')\/(∃a v,Hid (r=.ok a)/\e=.returned v/\ok a v w'/\Fr w.heap.size [C.rb] w w'):=by
 cases r with
 | error f=>exact .inl ⟨f,rfl,h⟩
 | ok a=>obtain ⟨v,c,k,j⟩:=h;exact .inr ⟨a,v,rfl,c,k,j⟩
theorem Gs {C:dV}{k:Nat}(l:Vj C k):zU C k 0:=by
 intro w i st ins und n h
 go_enter Tryz.func242,Tryz.ntmps242
 go_wp2_with (go_at_call 249;refine (l w i st ins und n h).mono ?_;rintro e w1 u;rcases u.cases with ⟨f,c,q,rfl,r⟩|⟨p,v,c,rfl,s,j⟩;· exact ⟨rfl,by rw[A5,c.out];exact ⟨q,rfl,r⟩⟩)
 go_ret
 rw[A5,c.out]
 exact ⟨v,rfl,s,j⟩
theorem Xt {w:World}{c B n:Nat}{l r:E}{h rv:Value}(y:w.heap.size=n) (hB:B≤n) (s:jR (Ge B) w l h) (u:jR (Ge B) w r rv) :
    jR (Ge B) (w.alloc (.cells #[.int .i64 c,.int .i64 0,.string ⟨#[]⟩,h,rv] 307)) (Mw c l r) (.pointer (some ⟨n,0,none⟩)):=by
 subst y
 have k:bB (Ge B) (Ge B) w (w.alloc (.cells #[.int .i64 c,.int .i64 0,.string ⟨#[]⟩,h,rv] 307)):=fun b j hb=>⟨j,Below.heap_alloc _ _ _ hb⟩
 exact ⟨w.heap.size,h,rv,rfl,hB,heap_alloc_new w _,s.carry k,u.carry k⟩
theorem jR.ptr {A:Nat->Prop}{w:World}{e:E}{v:Value}(h:jR A w e v):∃u,v=.pointer u:=by
 cases e with
 | nil=>exact ⟨none,h⟩
 | node b o a l r=>obtain ⟨g,c,rv,rfl,_⟩:=h;exact ⟨_,rfl⟩
theorem Fr.wide {B:Nat}{X:List Nat}{w w':World}(h:Fr B [] w w'):Fr B X w w':=h.mono (aN4 _) (by simp)
theorem Nj {L:List Lx.fQ}{below:Nat->Except F (E×Nat)}{code:bE->Nat}(hb:∀i e j,below i=.ok (e,j)->i<j):∀(f:Nat) (e:E) (i:Nat) (c:E) (j:Nat),lB L below code f e i=.ok (c,j)->i≤j:=by
 intro f
 induction f with
 | zero=>intro e i c j h;rw[lB] at h;injection h with h;injection h with _ k;omega
 | succ f ih=>
  intro e i c j h
  rw[lB] at h
  split at h
  ·injection h with h;injection h with _ k;omega
  ·split at h
   ·exact absurd h (by simp)
   ·rename_i r m hm
    have l:=hb _ _ _ hm
    have k:=ih _ _ _ _ h
    omega
theorem Fb {L:List Lx.fQ}{one:Nat->Except F (E×Nat)}(c:∀i e j,one i=.ok (e,j)->i<j):∀(t i:Nat) (e:E) (j:Nat),A5 L one t i=.ok (e,j)->i<j:=by
 intro t
 induction t with
 | zero=>exact c
 | succ t ih=>
  intro i e j h
  rw[A5,zI] at h
  split at h
  ·exact absurd h (by simp)
  ·rename_i e1 m hm
   have l:=ih _ _ _ hm
   have k:=Nj ih _ _ _ _ _ h
   omega
theorem Qv {L:List Lx.fQ}:∀(k i:Nat) (e:E) (j:Nat),one L k i=.ok (e,j)->i<j:=by
 intro k
 induction k with
 | zero=>intro i e j h;rw[one] at h;exact absurd h (by simp)
 | succ k ih=>
  intro i e j h
  rw[one] at h
  split at h
  ·split at h
   ·exact absurd h (by simp)
   ·rename_i m hm
    have:=ih _ _ _ hm
    injection h with h;injection h with _ h2;omega
  ·split at h
   ·split at h
    ·exact absurd h (by simp)
    ·rename_i m hm
     have:=Fb ih _ _ _ _ hm
     split at h
     ·injection h with h;injection h with _ h2;omega
     ·exact absurd h (by simp)
   ·split at h
    ·split at h
     ·split at h
      ·exact absurd h (by simp)
      ·split at h
       ·injection h with h;injection h with _ h2;omega
       ·exact absurd h (by simp)
     ·exact absurd h (by simp)
    ·split at h
     ·injection h with h;injection h with _ h2;omega
     ·split at h
      ·exact absurd h (by simp)
      ·injection h with h;injection h with _ h2;omega
theorem Gt {C:dV}{k t:Nat}(ht:t<5) (hc:zU C k t):zU C k (t+1):=by
 intro w i st ins und hu h
 have aa:((5-(t+1):Nat):Int)+1=((5-t:Nat):Int):=by omega
 have ae:¬((5-(t+1):Nat):Int)=5:=by omega
 have af:(((5-(t+1):Nat):Int)==5)=false:=by simpa using ae
 obtain ⟨y,Y⟩:∃y,Hid (y=5-(t+1)):=⟨_,rfl⟩
 have D:y<5:=by have:=Y.out;omega
 have am:Hid (y=4-t):=by rw[Hid,Y.out];omega
 rw[<-Y.out] at aa ae af ⊢
 have I:∀(w:World) (i st ins und:Nat),und+k=7->PS C w i st ins und->Calls Tryz.prog 242 #[.pointer (some ⟨C.rb,0,none⟩),.int .i64 ((y:Int)+1)] w (vU C (Vp C w st ins und) w (A5 C.L (one C.L k) t i)):=fun w i st ins und hu h=>by
  rw[aa];exact hc w i st ins und hu h
 clear aa
 go_enter Tryz.func242,Tryz.ntmps242
 go_wp2_with (go_at_call 242;refine (I w i st ins und hu h).mono ?_;rintro e w1 h1;rcases h1.cases with ⟨f,hr,q,rfl,hq⟩|⟨⟨e0,i0⟩,v,hr,rfl,⟨hv,h1⟩,hf⟩;· exact ⟨rfl,by rw[A5,zI,hr.out];exact ⟨q,rfl,hq⟩⟩)
 have HR:Hid (A5 C.L (one C.L k) (t+1) i=lB C.L (A5 C.L (one C.L k) t) (iP y) C.L.length e0 i0):=by
  rw[Hid,A5,zI,hr.out,am.out]
 go_loopg [5] C.L.length (fun g v wr=>∃(e:E) (j:Nat),Hid (A5 C.L (one C.L k) (t+1) i=lB C.L (A5 C.L (one C.L k) t) (iP y) g e j)/\C.L.length≤g+j/\jR (Ge w.heap.size) wr e v/\PS C wr j st ins und/\Fr w.heap.size [C.rb] w wr)
 case atStart=>exact ⟨e0,i0,HR,by omega,hv,h1,hf⟩
 case round=>
  obtain ⟨e1,j,Z,hg,ac,n,Q⟩:=hrel
  obtain ⟨p1,rfl⟩:=ac.ptr
  obtain ⟨tb,ab⟩:∃tb:ByteArray,Hid (bs tb=tx C.L j):=⟨⟨(tx C.L j).toArray⟩,rfl⟩
  obtain ⟨c,ad⟩:∃c,Hid (iP y (bs tb)=c):=⟨_,rfl⟩
  have l:Hid (iP y (tx C.L j)=c):=by rw[Hid,<-ab.out];exact ad.out
  obtain ⟨g',ai⟩:∃g',gk=g'+1:=⟨gk-1,by have:=n.lt;omega⟩
  subst ai
  have ar:=n.lt
  have au:=n.wf.len
  by_cases hc0:c=0
  ·subst hc0
   have HE:Hid (A5 C.L (one C.L k) (t+1) i=.ok (e1,j)):=by rw[Hid,Z.out,lB,if_pos l.out]
   go_wp2_with (first
    | (go_at_call 106;refine (eI n tb ab).mono ?_;rintro e w2 ⟨rfl,X,s⟩)
    | (go_at_call 250;refine (qA X tb y 0 D ad).mono ?_;rintro e w3 ⟨rfl,u,r⟩))
   go_ret
   rw[HE.out]
   refine ⟨_,rfl,⟨?_,u⟩,?_⟩
   ·exact (ac.carry (xH s)).carry (xH r)
   ·exact (Q.up s.wide).up r.wide
  ·have ap:¬(c:Int)=0:=by omega
   have aw:((c:Int)==0)=false:=by simpa using ap
   have U:tx C.L j≠[]:=by
    intro e;rw[e] at l
    have:∀t:Fin 5,iP t.val []=0:=by decide
    exact hc0 (by rw[<-l.out];exact this ⟨y,D⟩)
   have an:=n.wf.next n.lt U
   clear U
   go_wp2_with (first
    | (go_at_call 106;refine (eI n tb ab).mono ?_;rintro e w2 ⟨rfl,X,s⟩)
    | (go_at_call 250;refine (qA X tb y c D ad).mono ?_;rintro e w3 ⟨rfl,u,r⟩;obtain ⟨-,c1,-⟩:=u.cells;have z1:=u.frozen 1;obtain ⟨aj,O⟩:=u.step an;have ax:=u.lts.1)
    | (go_at_call 242;refine (I _ (j+1) st ins und hu aj).mono ?_;rintro e w5 h5;rcases h5.cases with ⟨f,J,q,rfl,hq⟩|⟨⟨e5,i5⟩,v5,J,rfl,⟨ah,al⟩,ag⟩;(· exact ⟨rfl,by rw[Z.out,lB,if_neg (by rw[l.out];exact hc0),J.out];exact aR.up (((Q.up s.wide).up r.wide).up O) ⟨q,rfl,hq⟩⟩);obtain ⟨p5,rfl⟩:=ah.ptr))
   have hF:Fr w.heap.size [C.rb] w w5:=(((Q.up s.wide).up r.wide).up O).up ag
   have ay:=hF.size
   have av:j+1<i5:=Fb (Qv k) _ _ _ _ J.out
   have hC:=h.lts.1
   have ao:jR (Ge w.heap.size) w5 e1 _:=((((ac.carry (xH s)).carry (xH r)).carry (vD hC O)).carry (vD hC ag))
   have ak:=ah.ge ((((Q.up s.wide).up r.wide).up O).size)
   go_roundg g'
   case measure=>omega
   case rel=>exact ⟨Mw c e1 e5,i5,by rw[Hid,Z.out,lB,if_neg (by rw[l.out];exact hc0),J.out,l.out],by omega,Xt rfl (by omega) ao ak,al.same ((Fr.refl _ _ _).alloc (aN4 _) _),hF.alloc (by omega) _⟩
end
section
open Go.RowKit Px
theorem kC {C:dV}{w:World}{i st ins und:Nat}(h:PS C w i st ins und) (tb:ByteArray) (c:Nat) (k:Hid (bP (bs tb)=c)):Calls Tryz.prog 253 #[.string tb] w fun e w'=>e=.returned (.int .i64 c)/\PS C w' i st ins und/\Fr w.heap.size [] w w':=by
 refine (A9 tb w h.tab).mono ?_
 rintro e w' ⟨rfl,hb⟩
 have j:=Fr.of_below hb []
 exact ⟨by rw[k.out],h.same j,j⟩
theorem yS {C:dV}{k:Nat}(y:zU C k 5) (w:World) (i st ins und:Nat) (n:und+k=7) (h:PS C w i st ins und):Calls Tryz.prog 226 #[.pointer (some ⟨C.rb,0,none⟩)] w (vU C (Vp C w st ins und) w (A5 C.L (one C.L k) 5 i)):=by
 have c:=y w i st ins und n h
 rw[show ((5-5:Nat):Int)=0 from rfl] at c
 go_enter Tryz.func226,Tryz.ntmps226
 go_wp2_with (go_at_call 242;refine c.mono ?_;rintro e w1 u;rcases u.cases with ⟨f,j,q,rfl,r⟩|⟨p,v,j,rfl,s,l⟩;(· exact ⟨rfl,by rw[j.out];exact ⟨q,rfl,r⟩⟩))
 go_ret
 rw[j.out]
 exact ⟨v,rfl,s,l⟩
theorem yZ {w:World}{c B n:Nat}{m:Int}{s:bE}{sb:ByteArray}(j:w.heap.size=n) (hB:B≤n) (h:sb=⟨s.toArray⟩) :
    jR (Ge B) (w.alloc (.cells #[.int .i64 c,.int .i64 m,.string sb,.pointer none,.pointer none] 307)) (.node 0 0 ⟨c,m,s⟩ .nil .nil) (.pointer (some ⟨n,0,none⟩)):=by
 subst j h
 exact ⟨w.heap.size,_,_,rfl,hB,heap_alloc_new w _,rfl,rfl⟩
theorem Xu {w:World}{c B n:Nat}{l:E}{h:Value}(s:w.heap.size=n) (hB:B≤n) (r:jR (Ge B) w l h) :
    jR (Ge B) (w.alloc (.cells #[.int .i64 c,.int .i64 0,.string ⟨#[]⟩,h,.pointer none] 307)) (Ua c l) (.pointer (some ⟨n,0,none⟩)):=by
 subst s
 have k:bB (Ge B) (Ge B) w (w.alloc (.cells #[.int .i64 c,.int .i64 0,.string ⟨#[]⟩,h,.pointer none] 307)):=fun b j hb=>⟨j,Below.heap_alloc _ _ _ hb⟩
 exact ⟨w.heap.size,h,_,rfl,hB,heap_alloc_new w _,r.carry k,rfl⟩
theorem PS.alloc {C:dV}{w:World}{i st ins und:Nat}(h:PS C w i st ins und) (o:Obj):PS C (w.alloc o) i st ins und/\Fr w.heap.size [C.rb] w (w.alloc o):=
 ⟨h.same ((Fr.refl _ _ _).alloc (aN4 _) _),(Fr.refl _ _ _).alloc (aN4 _) _⟩
theorem Qs {C:dV}:Vj C 0:=by
 intro w i st ins und j h
 obtain ⟨-,-,-,-,c4⟩:=h.cells
 have hb:=nZ h und 7 (by omega)
 go_enter Tryz.func249,Tryz.ntmps249
 go_wp2_with (go_at_call 107;refine hb.mono ?_;rintro e w1 ⟨q,rfl,c⟩;exact ⟨rfl,by rw[one];exact ⟨q,rfl,c⟩⟩)
theorem Lh {C:dV}{k:Nat}(ho:Vj C k) (w:World) (i st ins und:Nat) (hu:und+(k+1)=7) (h:PS C w i st ins und) (l:bP (tx C.L i)≠0):Calls Tryz.prog 249 #[.pointer (some ⟨C.rb,0,none⟩)] w (vU C (Vp C w st ins und) w (one C.L (k+1) i)):=by
 obtain ⟨-,-,-,-,c4⟩:=h.cells
 obtain ⟨tb,U⟩:∃tb:ByteArray,Hid (bs tb=tx C.L i):=⟨⟨(tx C.L i).toArray⟩,rfl⟩
 obtain ⟨c,O⟩:∃c,Hid (bP (bs tb)=c):=⟨_,rfl⟩
 have u:Hid (bP (tx C.L i)=c):=by rw[Hid,<-U.out];exact O.out
 have hb:=fun w=>kD (C:=C) (w:=w) und 7 (by omega)
 have H0:Hid _:=l
 have D:tx C.L i≠[]:=by intro e;rw[e] at l;exact l (by decide)
 have af:=h.wf.next h.lt D
 have al:=h.wf.len
 rw[u.out] at l
 have aj:¬(c:Int)=0:=by omega
 have ak:((c:Int) != 0)=true:=by simpa using aj
 have HE:∀f,Hid (one C.L k (i+1)=.error f)->Hid (one C.L (k+1) i=.error f):=fun f hr=>by rw[Hid,one,if_pos H0.out,hr.out]
 have HO:∀e j,Hid (one C.L k (i+1)=.ok (e,j))->Hid (one C.L (k+1) i=.ok (Ua c e,j)):=fun e j hr=>by rw[Hid,one,if_pos H0.out,hr.out,u.out]
 clear D l
 go_enter Tryz.func249,Tryz.ntmps249
 go_wp2_with (first
  | (go_at_call 107;refine (hb _).mono ?_;rintro e w' ⟨rfl,hw⟩;obtain rfl:=hw.symm)
  | (go_at_call 106;refine (eI h tb U).mono ?_;rintro e w2 ⟨rfl,ad,ai⟩)
  | (go_at_call 253;refine (kC ad tb c O).mono ?_;rintro e w3 ⟨rfl,s,aa⟩;obtain ⟨-,d1,-,-,d4⟩:=s.cells;have z1:=s.frozen 1;have z4:=s.frozen 4;obtain ⟨ah,ae⟩:=s.step af;obtain ⟨ab,ac⟩:=ah.down;have n:=((ai.wide (X:=[C.rb])).up aa.wide).up (ae.up ac))
  | (go_at_call 249;refine (ho _ (i+1) st ins (und+1) (by omega) ab).mono ?_;rintro e w6 h6;rcases h6.cases with ⟨f,y,q,rfl,hq⟩|⟨⟨e6,i6⟩,v6,y,rfl,⟨Q,r⟩,I⟩;(· exact ⟨rfl,by rw[(HE _ y).out];exact aR.up n ⟨q,rfl,hq⟩⟩);obtain ⟨p6,rfl⟩:=Q.ptr;obtain ⟨-,-,-,-,b4⟩:=r.cells;have y4:=r.frozen 4;have l6:=r.lts.1))
 go_ret
 rw[(HO _ _ y).out]
 obtain ⟨ag,J⟩:=r.upAgain
 obtain ⟨Z,Y⟩:=ag.alloc (.cells #[.int .i64 c,.int .i64 0,.string ⟨#[]⟩,.pointer p6,.pointer none] 307)
 exact ⟨_,rfl,⟨Xu (by simp) (n.up I).size ((Q.ge n.size).carry (vD h.lts.1 J)),Z⟩,((n.up I).up J).up Y⟩
theorem Wx {C:dV}{k:Nat}(ai:zU C k 5) (w:World) (i st ins und:Nat) (hu:und+(k+1)=7) (h:PS C w i st ins und) (n:bP (tx C.L i)=0) (l:tx C.L i=Q4):Calls Tryz.prog 249 #[.pointer (some ⟨C.rb,0,none⟩)] w (vU C (Vp C w st ins und) w (one C.L (k+1) i)):=by
 obtain ⟨-,-,-,-,c4⟩:=h.cells
 obtain ⟨tb,U⟩:∃tb:ByteArray,Hid (bs tb=tx C.L i):=⟨⟨(tx C.L i).toArray⟩,rfl⟩
 have ab:Hid (bP (bs tb)=0):=by rw[Hid,U.out];exact n
 have hb:=fun w=>kD (C:=C) (w:=w) und 7 (by omega)
 have HE:∀f,Hid (A5 C.L (one C.L k) 5 (i+1)=.error f)->Hid (one C.L (k+1) i=.error f):=fun f hr=>by rw[Hid,one,if_neg (by simp[n]),if_pos l,hr.out]
 have HO:∀e j,Hid (A5 C.L (one C.L k) 5 (i+1)=.ok (e,j))->Hid (one C.L (k+1) i=if tx C.L j=Fj then .ok (e,j+1) else .error (3,pl C.L j)):=fun e j hr=>by rw[Hid,one,if_neg (by simp[n]),if_pos l,hr.out]
 have HP:Hid _:=l
 clear n l
 go_enter Tryz.func249,Tryz.ntmps249
 go_wp2_with (first
  | (go_at_call 107;refine (hb _).mono ?_;rintro e w' ⟨rfl,hw⟩;obtain rfl:=hw.symm)
  | (go_at_call 106;refine (eI h tb U).mono ?_;rintro e w2 ⟨rfl,ae,ah⟩)
  | (go_at_call 253;refine (kC ae tb 0 ab).mono ?_;rintro e w3 ⟨rfl,ac,Z⟩)
  | (go_at_call 109;refine (dM ac ⟨#[40]⟩ HP.out (by decide)).mono ?_;rintro e w4 ⟨rfl,I,af⟩;obtain ⟨-,-,-,-,d4⟩:=I.cells;have z4:=I.frozen 4;obtain ⟨aa,ad⟩:=I.down;have r:=((ah.wide (X:=[C.rb])).up Z.wide).up (af.up ad))
  | (go_at_call 226;refine (yS ai _ (i+1) st ins (und+1) (by omega) aa).mono ?_;rintro e w6 h6;rcases h6.cases with ⟨f,s,q,rfl,hq⟩|⟨⟨e6,i6⟩,v6,s,rfl,⟨Q,y⟩,O⟩;(· exact ⟨rfl,by rw[(HE _ s).out];exact aR.up r ⟨q,rfl,hq⟩⟩);obtain ⟨p6,rfl⟩:=Q.ptr;obtain ⟨-,-,-,-,b4⟩:=y.cells;have y4:=y.frozen 4;obtain ⟨ag,u⟩:=y.upAgain)
  | (go_at_call 101;refine (cD ag ⟨#[41]⟩ Fj rfl (by decide)).mono ?_;rintro e w8 h8;rcases h8.cases with ⟨f,D,q,rfl,hq⟩|⟨_,v8,D,rfl,⟨rfl,Y⟩,J⟩;(· exact ⟨rfl,by
      rw[(HO _ _ s).out]
      have c:=D.out
      rw[wZ] at c
      split at c
      ·exact absurd c (by simp)
      ·rename_i hn
       rw[if_neg hn]
       injection c with c
       rw[c]
       exact aR.up ((r.up O).up u) ⟨q,rfl,hq⟩⟩)))
 go_ret
 have hn:tx C.L i6=Fj:=by
  have c:=D.out
  rw[wZ] at c
  split at c
  ·assumption
  ·exact absurd c (by simp)
 rw[(HO _ _ s).out,if_pos hn]
 exact ⟨_,rfl,⟨((Q.ge r.size).carry (vD h.lts.1 u)).carry (vD h.lts.1 J),Y⟩,((r.up O).up u).up J⟩
end
end Go.Proofs.YthieaobjdpfcoaaGreatDoor
