import Derived.Test.YtcdbhoknhnimcaaGreatDoorTTabs
import Derived.Deep.QuietTactic
import Derived.BigQuiet
import Derived.StillTailTactics
set_option maxRecDepth 100000
set_option maxHeartbeats 4000000
namespace Go.Proofs.YtcdbhoknhnimcaaGreatDoor
section
open Go.RowKit Px
structure dT where
 rb:Nat
 g:Nat
 cap:Nat
 L:List Lx.fK
structure Wf (L:List Lx.fK):Prop where
 pos:0<L.length
 len:L.length≤601
 endk:kd L (L.length-1)=4
 endt:tx L (L.length-1)=[]
 num:∀k,kd L k=2->(∀c∈tx L k,48≤c.toNat/\c.toNat≤57)/\(tx L k).length≤18/\tx L k≠[]
theorem Wf.next {L:List Lx.fK}(h:Wf L) {i:Nat}(hi:i<L.length) (ht:tx L i≠[]):i+1<L.length:=by
 rcases Nat.lt_or_ge (i+1) L.length with h'|h'
 ·exact h'
 ·have:i=L.length-1:=by omega
  rw[this] at ht;exact absurd h.endt ht
theorem Wf.nextk {L:List Lx.fK}(h:Wf L) {i:Nat}(hi:i<L.length) (ht:kd L i≠4):i+1<L.length:=by
 rcases Nat.lt_or_ge (i+1) L.length with h'|h'
 ·exact h'
 ·have:i=L.length-1:=by omega
  rw[this] at ht;exact absurd h.endk ht
def rdC (C:dT) (i st ins und:Nat):Obj:=.cells #[.slice (some ⟨C.g,0,none⟩) C.L.length C.cap,.int .i64 i,.int .i64 st,.int .i64 ins,.int .i64 und] 155 (0,0)
structure PS (C:dT) (w:World) (i st ins und:Nat):Prop where
 rd:w.heap[C.rb]?=some (rdC C i st ins und)
 tk:∀k t,C.L[k]?=some t->w.cell? ⟨C.g,k*3,none⟩=some (.int .i64 t.kind)/\w.cell? ⟨C.g,k*3+1,none⟩=some (sv t.text)/\w.cell? ⟨C.g,k*3+2,none⟩=some (.int .i64 t.place)
 tab:qJ w
 lt:i<C.L.length
 wf:Wf C.L
 gr:C.g<C.rb
 hi:11<C.g
theorem PS.keep {C:dT}{w w':World}{i st ins und i' st' ins' und':Nat}(h:PS C w i st ins und) (hf:Fr w.heap.size [C.rb] w w') (hr:w'.heap[C.rb]?=some (rdC C i' st' ins' und')) (hlt:i'<C.L.length):PS C w' i' st' ins' und':=by
 have hrl:=aB h.rd
 have hgl:=Nat.lt_trans h.gr hrl
 have hg:w'.heap[C.g]?=w.heap[C.g]?:=hf.block _ hgl (by simp;exact Nat.ne_of_lt h.gr)
 refine ⟨hr,fun k t hk=>?_,h.tab.keep (fun b hb=>hf.block b (by have:=h.hi;omega) (by have:=h.hi;have:=h.gr;simp;omega)),hlt,h.wf,h.gr,h.hi⟩
 have:=h.tk k t hk
 rw[World.cell?_of_block (w:=w) (a:=⟨C.g,k*3,none⟩) hg,World.cell?_of_block (w:=w) (a:=⟨C.g,k*3+1,none⟩) hg,World.cell?_of_block (w:=w) (a:=⟨C.g,k*3+2,none⟩) hg]
 exact this
theorem PS.same {C:dT}{w w':World}{i st ins und:Nat}(h:PS C w i st ins und) (hf:Fr w.heap.size [] w w'):PS C w' i st ins und:=
 h.keep (hf.mono (Nat.le_refl _) (by simp)) (by rw[hf.block _ (aB h.rd) (by simp)];exact h.rd) h.lt
theorem PS.cells {C:dT}{w:World}{i st ins und:Nat}(h:PS C w i st ins und) :
    w.cell? ⟨C.rb,0,none⟩=some (.slice (some ⟨C.g,0,none⟩) C.L.length C.cap)/\w.cell? ⟨C.rb,1,none⟩=some (.int .i64 i)/\w.cell? ⟨C.rb,2,none⟩=some (.int .i64 st)/\w.cell? ⟨C.rb,3,none⟩=some (.int .i64 ins)/\w.cell? ⟨C.rb,4,none⟩=some (.int .i64 und):=by
 have:=h.rd
 refine ⟨?_,?_,?_,?_,?_⟩<;>(rw[cell_of_row _ _ _ _ _ _ h.rd];rfl)
theorem PS.frozen {C:dT}{w:World}{i st ins und:Nat}(h:PS C w i st ins und) (o:Nat):w.frozen? ⟨C.rb,o,none⟩=false:=by
 simp[World.frozen?,h.rd,rdC]
theorem Tp {L:List Lx.fK}{i:Nat}(h:i<L.length):L[i]?=some (Hk L i):=by
 rw[Hk,List.getD_eq_getElem?_getD,List.getElem?_eq_getElem h];rfl
theorem PS.now {C:dT}{w:World}{i st ins und:Nat}(h:PS C w i st ins und) :
    w.cell? ⟨C.g,i*3,none⟩=some (.int .i64 (kd C.L i))/\w.cell? ⟨C.g,i*3+1,none⟩=some (sv (tx C.L i))/\w.cell? ⟨C.g,i*3+2,none⟩=some (.int .i64 (pl C.L i)):=h.tk i _ (Tp h.lt)
theorem PS.set {C:dT}{w:World}{i st ins und:Nat}(h:PS C w i st ins und) (o:Nat) (v:Value) {i' st' ins' und':Nat}(he:(#[.slice (some ⟨C.g,0,none⟩) C.L.length C.cap,.int .i64 i,.int .i64 st,.int .i64 ins,.int .i64 und]:Array Value).setIfInBounds o v=#[.slice (some ⟨C.g,0,none⟩) C.L.length C.cap,.int .i64 i',.int .i64 st',.int .i64 ins',.int .i64 und']) (hlt:i'<C.L.length) :
    PS C (w.setCell ⟨C.rb,o,none⟩ v) i' st' ins' und'/\Fr w.heap.size [C.rb] w (w.setCell ⟨C.rb,o,none⟩ v):=by
 have hf:Fr w.heap.size [C.rb] w (w.setCell ⟨C.rb,o,none⟩ v):=(Fr.refl _ _ _).setCell (.inr (by simp)) v
 refine ⟨h.keep hf ?_ hlt,hf⟩
 rw[heap_setCell_same w C.rb o _ 155 _ h.rd,he];rfl
def aP (C:dT) (w:World) (f:F) (e:Ending) (w':World):Prop:=
 ∃q,e=.panicked [{ v:=.iface 115 (.pointer (some ⟨q,0,none⟩)),recovered:=false }]/\w'.heap[q]?=some (.cells #[.int .i64 f.1,.int .i64 f.2] 117 (0,0))/\w.heap.size≤q/\Fr w.heap.size [C.rb] w w'
theorem aP.up {C:dT}{w w1 w':World}{f:F}{e:Ending}(hf:Fr w.heap.size [C.rb] w w1) (h:aP C w1 f e w'):aP C w f e w':=by
 obtain ⟨q,h1,h2,h3,h4⟩:=h
 exact ⟨q,h1,h2,Nat.le_trans hf.size h3,hf.trans (h4.mono hf.size (by simp))⟩
def uJ (C:dT) {α:Type}(ok:α->Value->World->Prop) (w:World) (r:Except F α) (e:Ending) (w':World):Prop:=
 match r with
 | .error f=>aP C w f e w'
 | .ok a=>∃v,e=.returned v/\ok a v w'/\Fr w.heap.size [C.rb] w w'
theorem Fr.up {X:List Nat}{w w1 w2:World}(h:Fr w.heap.size X w w1) (k:Fr w1.heap.size X w1 w2):Fr w.heap.size X w w2:=h.trans (k.mono h.size (fun _ hx _=>hx))
section
variable {C:dT}{w:World}{i st ins und:Nat}
theorem wG (h:PS C w i st ins und):Calls Tryz.prog 137 #[.pointer (some ⟨C.rb,0,none⟩)] w fun e w'=>e=.returned (sv (tx C.L i))/\PS C w' i st ins und/\Fr w.heap.size [] w w':=by
 obtain ⟨c0,c1,-⟩:=h.cells
 obtain ⟨-,t1,-⟩:=h.now
 have H:Hid _:=h
 have hi0:(0:Int)≤(i:Int):=Int.natCast_nonneg _
 have hi1:(i:Int)<(C.L.length:Int):=by have:=h.lt;omega
 clear h
 go_enter Tryz.func137,Tryz.ntmps137
 go_wp2
 go_quiet (fail)
 go_wp2
 go_ret
 have hf:=(Fr.refl w.heap.size [] w).drewN nq
 exact ⟨rfl,H.out.same hf,hf⟩
theorem gR (h:PS C w i st ins und) (e:Nat):Calls Tryz.prog 142 #[.pointer (some ⟨C.rb,0,none⟩),.int .i64 e] w fun en w'=>aP C w (e,pl C.L i) en w':=by
 obtain ⟨c0,c1,-⟩:=h.cells
 obtain ⟨-,-,t2⟩:=h.now
 have hi0:(0:Int)≤(i:Int):=Int.natCast_nonneg _
 have hi1:(i:Int)<(C.L.length:Int):=by have:=h.lt;omega
 have hp:∀(v:Value) (w:World),(Instr.panic (.iface 115 v)).run Tryz.prog w=.halt (.panic (.iface 115 v)) w:=fun _ _=>rfl
 clear h
 go_enter Tryz.func142,Tryz.ntmps142
 go_wp2
 go_still_tail 13,(by kernel_rfl)
 go_wp2
 exact ⟨rfl,_,rfl,heap_alloc_new w _,Nat.le_refl _,((Fr.refl _ _ _).alloc (Nat.le_refl _) _).drew⟩
theorem jS (many most:Nat) (hm:many<most):Calls Tryz.prog 138 #[.pointer (some ⟨C.rb,0,none⟩),.int .i64 many,.int .i64 most] w fun e w'=>e=.returned (.tuple #[])/\w'=w:=by
 have h1:¬(most:Int)≤(many:Int):=by omega
 go_enter Tryz.func138,Tryz.ntmps138
 go_wp2
 go_end0
 exact ⟨rfl,rfl⟩
theorem qC (h:PS C w i st ins und) (many most:Nat) (hm:most≤many):Calls Tryz.prog 138 #[.pointer (some ⟨C.rb,0,none⟩),.int .i64 many,.int .i64 most] w fun e w'=>aP C w (4,pl C.L i) e w':=by
 have h1:(most:Int)≤(many:Int):=by omega
 go_enter Tryz.func138,Tryz.ntmps138
 go_wp2_with (go_at_call 142;refine (gR h 4).mono ?_;rintro e w' ⟨q,rfl,ht⟩)
 exact ⟨rfl,q,rfl,ht⟩
theorem dM (h:PS C w i st ins und) (s:ByteArray) (hs:tx C.L i=bs s) (hne:bs s≠[]):Calls Tryz.prog 140 #[.pointer (some ⟨C.rb,0,none⟩),.string s] w fun e w'=>e=.returned (.bool true)/\PS C w' (i+1) st ins und/\Fr w.heap.size [C.rb] w w':=by
 have hlt:=h.wf.next h.lt (by rw[hs];exact hne)
 have h6:=h.wf.len
 have heq:(tx C.L i==s.toList)=true:=by
  rw[ByteArray.toList_eq];exact beq_iff_eq.2 hs
 clear hs hne
 go_enter Tryz.func140,Tryz.ntmps140
 go_wp2_with (go_at_call 137;refine (wG h).mono ?_;rintro e w1 ⟨rfl,h1,hf1⟩;obtain ⟨-,c1,-⟩:=h1.cells;have z1:=h1.frozen 1;rw[sv])
 go_ret
 have hset:=h1.set 1 (.int .i64 ((i+1:Nat):Int)) (i':=i+1) (st':=st) (ins':=ins) (und':=und) rfl hlt
 refine ⟨rfl,?_,?_⟩
 ·exact hset.1
 ·exact (hf1.mono (Nat.le_refl _) (by simp)).up hset.2
theorem cG (h:PS C w i st ins und) (s:ByteArray) (hs:tx C.L i≠bs s):Calls Tryz.prog 140 #[.pointer (some ⟨C.rb,0,none⟩),.string s] w fun e w'=>e=.returned (.bool false)/\PS C w' i st ins und/\Fr w.heap.size [] w w':=by
 have heq:(tx C.L i==s.toList)=false:=by
  rw[ByteArray.toList_eq];exact beq_eq_false_iff_ne.2 hs
 clear hs
 go_enter Tryz.func140,Tryz.ntmps140
 go_wp2_with (go_at_call 137;refine (wG h).mono ?_;rintro e w1 ⟨rfl,h1,hf1⟩;rw[sv])
 go_ret
 exact ⟨rfl,h1,hf1⟩
theorem bT (h:PS C w i st ins und) (s:ByteArray) (k:bB) (hk:bs s=k) (hne:k≠[]):Calls Tryz.prog 132 #[.pointer (some ⟨C.rb,0,none⟩),.string s] w (uJ C (fun _ v w'=>v=.tuple #[]/\PS C w' (i+1) st ins und) w (vD C.L k i)):=by
 subst hk
 by_cases hs:tx C.L i=bs s
 ·have H:Hid (vD C.L (bs s) i=.ok ()):=if_pos hs
  go_enter Tryz.func132,Tryz.ntmps132
  go_wp2_with (go_at_call 140;refine (dM h s hs hne).mono ?_;rintro e w1 ⟨rfl,h1,hf1⟩)
  go_end0
  rw[H.out]
  exact ⟨_,rfl,⟨rfl,h1⟩,hf1⟩
 ·have H:Hid (vD C.L (bs s) i=.error (3,pl C.L i)):=if_neg hs
  go_enter Tryz.func132,Tryz.ntmps132
  go_wp2_with (first
   | (go_at_call 140;refine (cG h s hs).mono ?_;rintro e w1 ⟨rfl,h1,hf1⟩)
   | (go_at_call 142;refine (gR h1 3).mono ?_;rintro e w2 ⟨q,rfl,ht⟩))
  rw[H.out]
  exact ⟨rfl,aP.up (hf1.mono (Nat.le_refl _) (by simp)) ⟨q,rfl,ht⟩⟩
theorem PS.new {C:dT}{w:World}{i st ins und:Nat}(h:PS C w i st ins und) (o:Obj):PS C ((w.alloc o).drew) i st ins und/\Fr w.heap.size [] w ((w.alloc o).drew):=by
 have hf:Fr w.heap.size [] w ((w.alloc o).drew):=((Fr.refl _ _ _).alloc (Nat.le_refl _) o).drew
 exact ⟨h.same hf,hf⟩
theorem zF (w:World) (a b c:Value) (t:TypeId):((w.alloc (.cells #[a,b,c] t)).drew).cell? ⟨w.heap.size,0,none⟩=some a/\((w.alloc (.cells #[a,b,c] t)).drew).cell? ⟨w.heap.size,1,none⟩=some b/\((w.alloc (.cells #[a,b,c] t)).drew).cell? ⟨w.heap.size,2,none⟩=some c:=by simp
theorem PS.step {C:dT}{w:World}{i st ins und:Nat}(h:PS C w i st ins und) (hlt:i+1<C.L.length):PS C (w.setCell ⟨C.rb,1,none⟩ (.int .i64 ((i:Int)+1))) (i+1) st ins und/\Fr w.heap.size [C.rb] w (w.setCell ⟨C.rb,1,none⟩ (.int .i64 ((i:Int)+1))):=h.set 1 _ rfl hlt
theorem PS.back {C:dT}{w:World}{i st ins und:Nat}(h:PS C w (i+1) st ins und):PS C (w.setCell ⟨C.rb,1,none⟩ (.int .i64 (i:Int))) i st ins und/\Fr w.heap.size [C.rb] w (w.setCell ⟨C.rb,1,none⟩ (.int .i64 (i:Int))):=h.set 1 _ rfl (by have:=h.lt;omega)
theorem PS.more {C:dT}{w:World}{i st ins und:Nat}(h:PS C w i st ins und):PS C (w.setCell ⟨C.rb,2,none⟩ (.int .i64 ((st:Int)+1))) i (st+1) ins und/\Fr w.heap.size [C.rb] w (w.setCell ⟨C.rb,2,none⟩ (.int .i64 ((st:Int)+1))):=h.set 2 _ rfl h.lt
theorem PS.into {C:dT}{w:World}{i st ins und:Nat}(h:PS C w i st ins und):PS C (w.setCell ⟨C.rb,3,none⟩ (.int .i64 ((ins:Int)+1))) i st (ins+1) und/\Fr w.heap.size [C.rb] w (w.setCell ⟨C.rb,3,none⟩ (.int .i64 ((ins:Int)+1))):=h.set 3 _ rfl h.lt
theorem PS.outOf {C:dT}{w:World}{i st ins und:Nat}(h:PS C w i st (ins+1) und):PS C (w.setCell ⟨C.rb,3,none⟩ (.int .i64 (ins:Int))) i st ins und/\Fr w.heap.size [C.rb] w (w.setCell ⟨C.rb,3,none⟩ (.int .i64 (ins:Int))):=h.set 3 _ rfl h.lt
theorem PS.down {C:dT}{w:World}{i st ins und:Nat}(h:PS C w i st ins und):PS C (w.setCell ⟨C.rb,4,none⟩ (.int .i64 ((und:Int)+1))) i st ins (und+1)/\Fr w.heap.size [C.rb] w (w.setCell ⟨C.rb,4,none⟩ (.int .i64 ((und:Int)+1))):=h.set 4 _ rfl h.lt
theorem PS.upAgain {C:dT}{w:World}{i st ins und:Nat}(h:PS C w i st ins (und+1)):PS C (w.setCell ⟨C.rb,4,none⟩ (.int .i64 (und:Int))) i st ins und/\Fr w.heap.size [C.rb] w (w.setCell ⟨C.rb,4,none⟩ (.int .i64 (und:Int))):=h.set 4 _ rfl h.lt
theorem PS.lts {C:dT}{w:World}{i st ins und:Nat}(h:PS C w i st ins und):C.rb<w.heap.size/\C.g<w.heap.size:=⟨aB h.rd,Nat.lt_trans h.gr (aB h.rd)⟩
theorem eR (h:PS C w i st ins und):Calls Tryz.prog 133 #[.pointer (some ⟨C.rb,0,none⟩)] w (uJ C (fun s v w'=>v=sv s/\PS C w' (i+1) st ins und) w (nm C.L i)):=by
 obtain ⟨c0,c1,-⟩:=h.cells
 obtain ⟨t0,t1,t2⟩:=h.now
 obtain ⟨l1,l2⟩:=h.lts
 have hi0:(0:Int)≤(i:Int):=Int.natCast_nonneg _
 have hi1:(i:Int)<(C.L.length:Int):=by have:=h.lt;omega
 have h6:=h.wf.len
 obtain ⟨tb,htb⟩:∃tb:ByteArray,Hid (tb=⟨(tx C.L i).toArray⟩):=⟨_,rfl⟩
 have hbs:Hid (bs tb=tx C.L i):=by rw[Hid,htb.out]
 have hsz:Hid (tb.size=(tx C.L i).length):=by rw[Hid,<-hbs.out];exact (fJ tb).symm
 rw[sv,<-htb.out] at t1
 by_cases hk1:kd C.L i=1
 ·have hk1':((kd C.L i:Nat):Int)=1:=by omega
  rw[hk1'] at t0
  have H1:Hid _:=hk1
  clear hk1 hk1'
  by_cases hkw:kw (bs tb)=true
  ·have H:Hid (nm C.L i=.error (3,pl C.L i)):=if_pos (.inr (by rw[<-hbs.out];exact hkw))
   have hw:∀w',qJ w'->Calls Tryz.prog 189 #[.string tb] w' fun e w''=>e=.returned (.bool true)/\w''=w':=fun w' ht=>by
    have:=uV tb w' ht;rw[hkw] at this;exact this
   clear hkw
   go_enter Tryz.func133,Tryz.ntmps133
   go_wp2
   go_region
   obtain ⟨hn,hfn⟩:=h.new (.cells #[.int .i64 1,.string tb,.int .i64 (pl C.L i)] 203)
   go_wp2_with (first
    | (go_at_call 189;refine (hw _ hn.tab).mono ?_;rintro e w1 ⟨rfl,hw1⟩;obtain rfl:=hw1.symm)
    | (go_at_call 142;refine (gR hn 3).mono ?_;rintro e w2 ⟨q,rfl,ht⟩))
   rw[H.out]
   exact ⟨rfl,aP.up (hfn.mono (Nat.le_refl _) (by simp)) ⟨q,rfl,ht⟩⟩
  ·have hkw':kw (bs tb)=false:=by simpa using hkw
   have hw:∀w',qJ w'->Calls Tryz.prog 189 #[.string tb] w' fun e w''=>e=.returned (.bool false)/\w''=w':=fun w' ht=>by
    have:=uV tb w' ht;rw[hkw'] at this;exact this
   have HK:Hid (¬(kd C.L i≠1\/kw (tx C.L i)=true)):=by
    rw[Hid,<-hbs.out];rintro (h|h)
    ·exact h H1.out
    ·exact hkw h
   clear hkw hkw'
   by_cases hln:12<tb.size
   ·have H:Hid (nm C.L i=.error (4,pl C.L i)):=by rw[Hid,nm,if_neg HK.out,if_pos (by rw[<-hsz.out];exact hln)]
    have hln':(12:Int)<(tb.size:Int):=by omega
    go_enter Tryz.func133,Tryz.ntmps133
    go_wp2
    go_region
    obtain ⟨hn,hfn⟩:=h.new (.cells #[.int .i64 1,.string tb,.int .i64 (pl C.L i)] 203)
    go_wp2_with (first
     | (go_at_call 189;refine (hw _ hn.tab).mono ?_;rintro e w1 ⟨rfl,hw1⟩;obtain rfl:=hw1.symm)
     | (go_at_call 142;refine (gR hn 4).mono ?_;rintro e w2 ⟨q,rfl,ht⟩))
    rw[H.out]
    exact ⟨rfl,aP.up (hfn.mono (Nat.le_refl _) (by simp)) ⟨q,rfl,ht⟩⟩
   ·have H:Hid (nm C.L i=.ok (tx C.L i)):=by rw[Hid,nm,if_neg HK.out,if_neg (by rw[<-hsz.out];exact hln)]
    have hln':¬(12:Int)<(tb.size:Int):=by omega
    have hlt:=h.wf.nextk h.lt (by rw[H1.out];decide)
    go_enter Tryz.func133,Tryz.ntmps133
    go_wp2
    go_region
    obtain ⟨hn,hfn⟩:=h.new (.cells #[.int .i64 1,.string tb,.int .i64 (pl C.L i)] 203)
    obtain ⟨e0,e1,e2⟩:=zF w (.int .i64 1) (.string tb) (.int .i64 (pl C.L i)) 203
    generalize (w.alloc (.cells #[.int .i64 1,.string tb,.int .i64 (pl C.L i)] 203)).drew=w1 at hn hfn e0 e1 e2 ⊢
    obtain ⟨-,d1,-⟩:=hn.cells
    have z1:=hn.frozen 1
    have hbne:¬C.rb=w.heap.size:=by omega
    clear c0 c1 t0 t1 t2 e2
    go_wp2_with (first
     | (go_at_call 189;refine (hw _ hn.tab).mono ?_;rintro e w2 ⟨rfl,hw1⟩;obtain rfl:=hw1.symm))
    go_ret
    rw[H.out]
    have hset:=hn.step hlt
    exact ⟨_,rfl,⟨by rw[htb.out];rfl,hset.1⟩,(hfn.mono (Nat.le_refl _) (by simp)).up hset.2⟩
 ·have hk1':¬((kd C.L i:Nat):Int)=1:=by omega
  have hk1'':(((kd C.L i:Nat):Int) != 1)=true:=by simpa using hk1'
  have H:Hid (nm C.L i=.error (3,pl C.L i)):=if_pos (.inl hk1)
  clear hk1
  go_enter Tryz.func133,Tryz.ntmps133
  go_wp2
  go_region
  obtain ⟨hn,hfn⟩:=h.new (.cells #[.int .i64 (kd C.L i),.string tb,.int .i64 (pl C.L i)] 203)
  go_wp2_with (go_at_call 142;refine (gR hn 3).mono ?_;rintro e w2 ⟨q,rfl,ht⟩)
  rw[H.out]
  exact ⟨rfl,aP.up (hfn.mono (Nat.le_refl _) (by simp)) ⟨q,rfl,ht⟩⟩
end
end
section
open Go.RowKit Px
def Ge (n b:Nat):Prop:=n≤b
theorem tP {C:dT}{n:Nat}{w w':World}(hn:C.rb<n) (hf:Fr w.heap.size [C.rb] w w'):aX (Ge n) (Ge n) w w':=hf.keep (fun b hb=>by simp[Ge] at *;omega)
theorem jI.ge {n m:Nat}{w:World}{e:E}{v:Value}(h:jI (Ge m) w e v) (hn:n≤m):jI (Ge n) w e v:=h.carry (fun _ hb _=>⟨Nat.le_trans hn hb,rfl⟩)
theorem vQ {A:Nat->Prop}{w w':World}(hf:Fr w.heap.size [] w w'):aX A A w w':=hf.keep (by simp)
def Sz (C:dT) (w:World) (st ins und:Nat) (p:E×Nat) (v:Value) (w':World):Prop:=jI (Ge w.heap.size) w' p.1 v/\PS C w' p.2 st ins und
def One (C:dT) (k:Nat):Prop:=∀(w:World) (i st ins und:Nat),und+k=7->PS C w i st ins und->Calls Tryz.prog 277 #[.pointer (some ⟨C.rb,0,none⟩)] w (uJ C (Sz C w st ins und) w (one C.L k i))
def yK (C:dT) (k t:Nat):Prop:=∀(w:World) (i st ins und:Nat),und+k=7->PS C w i st ins und->Calls Tryz.prog 270 #[.pointer (some ⟨C.rb,0,none⟩),.int .i64 ((5-t:Nat):Int)] w (uJ C (Sz C w st ins und) w (yQ C.L (one C.L k) t i))
theorem eD {C:dT}{w:World}{i st ins und:Nat}(h:PS C w i st ins und) (tb:ByteArray) (htb:Hid (bs tb=tx C.L i)):Calls Tryz.prog 137 #[.pointer (some ⟨C.rb,0,none⟩)] w fun e w'=>e=.returned (.string tb)/\PS C w' i st ins und/\Fr w.heap.size [] w w':=by
 refine (wG h).mono ?_
 rintro e w' ⟨rfl,h1,h2⟩
 exact ⟨by rw[sv,<-htb.out],h1,h2⟩
theorem pG {C:dT}{w:World}{i st ins und:Nat}(h:PS C w i st ins und) (tb:ByteArray) (t c:Nat) (ht:t<5) (hc:Hid (iI t (bs tb)=c)):Calls Tryz.prog 278 #[.string tb,.int .i64 t] w fun e w'=>e=.returned (.int .i64 c)/\PS C w' i st ins und/\Fr w.heap.size [] w w':=by
 refine (vE tb t ht w h.tab).mono ?_
 rintro e w' ⟨rfl,hb⟩
 have hf:=Fr.of_below hb []
 exact ⟨by rw[hc.out],h.same hf,hf⟩
theorem uJ.cases {C:dT}{α:Type}{ok:α->Value->World->Prop}{w:World}{r:Except F α}{e:Ending}{w':World}(h:uJ C ok w r e w'):(∃f,Hid (r=.error f)/\aP C w f e w')\/(∃a v,Hid (r=.ok a)/\e=.returned v/\ok a v w'/\Fr w.heap.size [C.rb] w w'):=by
 cases r with
 | error f=>exact .inl ⟨f,rfl,h⟩
 | ok a=>obtain ⟨v,h1,h2,h3⟩:=h;exact .inr ⟨a,v,rfl,h1,h2,h3⟩
theorem Ei {C:dT}{k:Nat}(ho:One C k):yK C k 0:=by
 intro w i st ins und hu h
 go_enter Tryz.func270,Tryz.ntmps270
 go_wp2_with (go_at_call 277;refine (ho w i st ins und hu h).mono ?_;rintro e w1 h1;rcases h1.cases with ⟨f,hr,q,rfl,hq⟩|⟨p,v,hr,rfl,hv,hf⟩;· exact ⟨rfl,by rw[yQ,hr.out];exact ⟨q,rfl,hq⟩⟩)
 go_ret
 rw[yQ,hr.out]
 exact ⟨v,rfl,hv,hf⟩
theorem Vk {w:World}{c B n:Nat}{l r:E}{lv rv:Value}(hn:w.heap.size=n) (hB:B≤n) (hl:jI (Ge B) w l lv) (hr:jI (Ge B) w r rv) :
    jI (Ge B) (w.alloc (.cells #[.int .i64 c,.int .i64 0,.string ⟨#[]⟩,lv,rv] 335)) (Kn c l r) (.pointer (some ⟨n,0,none⟩)):=by
 subst hn
 have k:aX (Ge B) (Ge B) w (w.alloc (.cells #[.int .i64 c,.int .i64 0,.string ⟨#[]⟩,lv,rv] 335)):=fun b ha hb=>⟨ha,Below.heap_alloc _ _ _ hb⟩
 exact ⟨w.heap.size,lv,rv,rfl,hB,heap_alloc_new w _,hl.carry k,hr.carry k⟩
theorem jI.ptr {A:Nat->Prop}{w:World}{e:E}{v:Value}(h:jI A w e v):∃u,v=.pointer u:=by
 cases e with
 | nil=>exact ⟨none,h⟩
 | node b o a l r=>obtain ⟨g,lv,rv,rfl,_⟩:=h;exact ⟨_,rfl⟩
theorem Fr.wide {B:Nat}{X:List Nat}{w w':World}(h:Fr B [] w w'):Fr B X w w':=h.mono (Nat.le_refl _) (by simp)
theorem Ky {L:List Lx.fK}{below:Nat->Except F (E×Nat)}{code:bB->Nat}(hb:∀i e j,below i=.ok (e,j)->i<j):∀(f:Nat) (e:E) (i:Nat) (e':E) (j:Nat),kH L below code f e i=.ok (e',j)->i≤j:=by
 intro f
 induction f with
 | zero=>intro e i e' j h;rw[kH] at h;injection h with h;injection h with _ h2;omega
 | succ f ih=>
  intro e i e' j h
  rw[kH] at h
  split at h
  ·injection h with h;injection h with _ h2;omega
  ·split at h
   ·exact absurd h (by simp)
   ·rename_i r m hm
    have h1:=hb _ _ _ hm
    have h2:=ih _ _ _ _ h
    omega
theorem Cs {L:List Lx.fK}{one:Nat->Except F (E×Nat)}(ho:∀i e j,one i=.ok (e,j)->i<j):∀(t i:Nat) (e:E) (j:Nat),yQ L one t i=.ok (e,j)->i<j:=by
 intro t
 induction t with
 | zero=>exact ho
 | succ t ih=>
  intro i e j h
  rw[yQ,yA] at h
  split at h
  ·exact absurd h (by simp)
  ·rename_i e1 m hm
   have h1:=ih _ _ _ hm
   have h2:=Ky ih _ _ _ _ _ h
   omega
theorem Ob {L:List Lx.fK}:∀(k i:Nat) (e:E) (j:Nat),one L k i=.ok (e,j)->i<j:=by
 intro k
 induction k with
 | zero=>intro i e j h;rw[one] at h;exact absurd h (by simp)
 | succ k ih=>
  intro i e j h
  rw[one] at h
  split at h
  ·split at h
   ·exact absurd h (by simp)
   ·rename_i m hm
    have:=ih _ _ _ hm
    injection h with h;injection h with _ h2;omega
  ·split at h
   ·split at h
    ·exact absurd h (by simp)
    ·rename_i m hm
     have:=Cs ih _ _ _ _ hm
     split at h
     ·injection h with h;injection h with _ h2;omega
     ·exact absurd h (by simp)
   ·split at h
    ·split at h
     ·split at h
      ·exact absurd h (by simp)
      ·split at h
       ·injection h with h;injection h with _ h2;omega
       ·exact absurd h (by simp)
     ·exact absurd h (by simp)
    ·split at h
     ·injection h with h;injection h with _ h2;omega
     ·split at h
      ·exact absurd h (by simp)
      ·injection h with h;injection h with _ h2;omega
theorem Ej {C:dT}{k t:Nat}(ht:t<5) (hc:yK C k t):yK C k (t+1):=by
 intro w i st ins und hu h
 have ht0:((5-(t+1):Nat):Int)+1=((5-t:Nat):Int):=by omega
 have hne:¬((5-(t+1):Nat):Int)=5:=by omega
 have hne':(((5-(t+1):Nat):Int)==5)=false:=by simpa using hne
 obtain ⟨t',ht'⟩:∃t',Hid (t'=5-(t+1)):=⟨_,rfl⟩
 have hlt5:t'<5:=by have:=ht'.out;omega
 have ht4:Hid (t'=4-t):=by rw[Hid,ht'.out];omega
 rw[<-ht'.out] at ht0 hne hne' ⊢
 have hcall:∀(w:World) (i st ins und:Nat),und+k=7->PS C w i st ins und->Calls Tryz.prog 270 #[.pointer (some ⟨C.rb,0,none⟩),.int .i64 ((t':Int)+1)] w (uJ C (Sz C w st ins und) w (yQ C.L (one C.L k) t i)):=fun w i st ins und hu h=>by
  rw[ht0];exact hc w i st ins und hu h
 clear ht0
 go_enter Tryz.func270,Tryz.ntmps270
 go_wp2_with (go_at_call 270;refine (hcall w i st ins und hu h).mono ?_;rintro e w1 h1;rcases h1.cases with ⟨f,hr,q,rfl,hq⟩|⟨⟨e0,i0⟩,v,hr,rfl,⟨hv,h1⟩,hf⟩;· exact ⟨rfl,by rw[yQ,yA,hr.out];exact ⟨q,rfl,hq⟩⟩)
 have HR:Hid (yQ C.L (one C.L k) (t+1) i=kH C.L (yQ C.L (one C.L k) t) (iI t') C.L.length e0 i0):=by
  rw[Hid,yQ,yA,hr.out,ht4.out]
 go_loopg [5] C.L.length (fun g v wr=>∃(e:E) (j:Nat),Hid (yQ C.L (one C.L k) (t+1) i=kH C.L (yQ C.L (one C.L k) t) (iI t') g e j)/\C.L.length≤g+j/\jI (Ge w.heap.size) wr e v/\PS C wr j st ins und/\Fr w.heap.size [C.rb] w wr)
 case atStart=>exact ⟨e0,i0,HR,by omega,hv,h1,hf⟩
 case round=>
  obtain ⟨e1,j,hr1,hg,hv1,hp1,hf1⟩:=hrel
  obtain ⟨p1,rfl⟩:=hv1.ptr
  obtain ⟨tb,htb⟩:∃tb:ByteArray,Hid (bs tb=tx C.L j):=⟨⟨(tx C.L j).toArray⟩,rfl⟩
  obtain ⟨c,hcc⟩:∃c,Hid (iI t' (bs tb)=c):=⟨_,rfl⟩
  have hcc':Hid (iI t' (tx C.L j)=c):=by rw[Hid,<-htb.out];exact hcc.out
  obtain ⟨g',hgg⟩:∃g',gk=g'+1:=⟨gk-1,by have:=hp1.lt;omega⟩
  subst hgg
  have hjl:=hp1.lt
  have hl6:=hp1.wf.len
  by_cases hc0:c=0
  ·subst hc0
   have HE:Hid (yQ C.L (one C.L k) (t+1) i=.ok (e1,j)):=by rw[Hid,hr1.out,kH,if_pos hcc'.out]
   go_wp2_with (first
    | (go_at_call 137;refine (eD hp1 tb htb).mono ?_;rintro e w2 ⟨rfl,hp2,hf2⟩)
    | (go_at_call 278;refine (pG hp2 tb t' 0 hlt5 hcc).mono ?_;rintro e w3 ⟨rfl,hp3,hf3⟩))
   go_ret
   rw[HE.out]
   refine ⟨_,rfl,⟨?_,hp3⟩,?_⟩
   ·exact (hv1.carry (vQ hf2)).carry (vQ hf3)
   ·exact (hf1.up hf2.wide).up hf3.wide
  ·have hc1:¬(c:Int)=0:=by omega
   have hc2:((c:Int)==0)=false:=by simpa using hc1
   have hne2:tx C.L j≠[]:=by
    intro e;rw[e] at hcc'
    have:∀t:Fin 5,iI t.val []=0:=by decide
    exact hc0 (by rw[<-hcc'.out];exact this ⟨t',hlt5⟩)
   have hnx:=hp1.wf.next hp1.lt hne2
   clear hne2
   go_wp2_with (first
    | (go_at_call 137;refine (eD hp1 tb htb).mono ?_;rintro e w2 ⟨rfl,hp2,hf2⟩)
    | (go_at_call 278;refine (pG hp2 tb t' c hlt5 hcc).mono ?_;rintro e w3 ⟨rfl,hp3,hf3⟩;obtain ⟨-,c1,-⟩:=hp3.cells;have z1:=hp3.frozen 1;obtain ⟨hp4,hf4⟩:=hp3.step hnx;have hl3:=hp3.lts.1)
    | (go_at_call 270;refine (hcall _ (j+1) st ins und hu hp4).mono ?_;rintro e w5 h5;rcases h5.cases with ⟨f,hr5,q,rfl,hq⟩|⟨⟨e5,i5⟩,v5,hr5,rfl,⟨hv5,hp5⟩,hf5⟩;(· exact ⟨rfl,by rw[hr1.out,kH,if_neg (by rw[hcc'.out];exact hc0),hr5.out];exact aP.up (((hf1.up hf2.wide).up hf3.wide).up hf4) ⟨q,rfl,hq⟩⟩);obtain ⟨p5,rfl⟩:=hv5.ptr))
   have hF:Fr w.heap.size [C.rb] w w5:=(((hf1.up hf2.wide).up hf3.wide).up hf4).up hf5
   have hF2:=hF.size
   have hi5:j+1<i5:=Cs (Ob k) _ _ _ _ hr5.out
   have hC:=h.lts.1
   have hvv:jI (Ge w.heap.size) w5 e1 _:=((((hv1.carry (vQ hf2)).carry (vQ hf3)).carry (tP hC hf4)).carry (tP hC hf5))
   have hv6:=hv5.ge ((((hf1.up hf2.wide).up hf3.wide).up hf4).size)
   go_roundg g'
   case measure=>omega
   case rel=>exact ⟨Kn c e1 e5,i5,by rw[Hid,hr1.out,kH,if_neg (by rw[hcc'.out];exact hc0),hr5.out,hcc'.out],by omega,Vk rfl (by omega) hvv hv6,hp5.same ((Fr.refl _ _ _).alloc (Nat.le_refl _) _),hF.alloc (by omega) _⟩
end
section
open Go.RowKit Px
theorem jR {C:dT}{w:World}{i st ins und:Nat}(h:PS C w i st ins und) (tb:ByteArray) (c:Nat) (hc:Hid (bG (bs tb)=c)):Calls Tryz.prog 281 #[.string tb] w fun e w'=>e=.returned (.int .i64 c)/\PS C w' i st ins und/\Fr w.heap.size [] w w':=by
 refine (yV tb w h.tab).mono ?_
 rintro e w' ⟨rfl,hb⟩
 have hf:=Fr.of_below hb []
 exact ⟨by rw[hc.out],h.same hf,hf⟩
theorem xI {C:dT}{k:Nat}(hc:yK C k 5) (w:World) (i st ins und:Nat) (hu:und+k=7) (h:PS C w i st ins und):Calls Tryz.prog 254 #[.pointer (some ⟨C.rb,0,none⟩)] w (uJ C (Sz C w st ins und) w (yQ C.L (one C.L k) 5 i)):=by
 have hc0:=hc w i st ins und hu h
 rw[show ((5-5:Nat):Int)=0 from rfl] at hc0
 go_enter Tryz.func254,Tryz.ntmps254
 go_wp2_with (go_at_call 270;refine hc0.mono ?_;rintro e w1 h1;rcases h1.cases with ⟨f,hr,q,rfl,hq⟩|⟨p,v,hr,rfl,hv,hf⟩;(· exact ⟨rfl,by rw[hr.out];exact ⟨q,rfl,hq⟩⟩))
 go_ret
 rw[hr.out]
 exact ⟨v,rfl,hv,hf⟩
theorem xP {w:World}{c B n:Nat}{m:Int}{s:bB}{sb:ByteArray}(hn:w.heap.size=n) (hB:B≤n) (hs:sb=⟨s.toArray⟩) :
    jI (Ge B) (w.alloc (.cells #[.int .i64 c,.int .i64 m,.string sb,.pointer none,.pointer none] 335)) (.node 0 0 ⟨c,m,s⟩ .nil .nil) (.pointer (some ⟨n,0,none⟩)):=by
 subst hn hs
 exact ⟨w.heap.size,_,_,rfl,hB,heap_alloc_new w _,rfl,rfl⟩
theorem Vl {w:World}{c B n:Nat}{l:E}{lv:Value}(hn:w.heap.size=n) (hB:B≤n) (hl:jI (Ge B) w l lv) :
    jI (Ge B) (w.alloc (.cells #[.int .i64 c,.int .i64 0,.string ⟨#[]⟩,lv,.pointer none] 335)) (Ri c l) (.pointer (some ⟨n,0,none⟩)):=by
 subst hn
 have k:aX (Ge B) (Ge B) w (w.alloc (.cells #[.int .i64 c,.int .i64 0,.string ⟨#[]⟩,lv,.pointer none] 335)):=fun b ha hb=>⟨ha,Below.heap_alloc _ _ _ hb⟩
 exact ⟨w.heap.size,lv,_,rfl,hB,heap_alloc_new w _,hl.carry k,rfl⟩
theorem PS.alloc {C:dT}{w:World}{i st ins und:Nat}(h:PS C w i st ins und) (o:Obj):PS C (w.alloc o) i st ins und/\Fr w.heap.size [C.rb] w (w.alloc o):=
 ⟨h.same ((Fr.refl _ _ _).alloc (Nat.le_refl _) _),(Fr.refl _ _ _).alloc (Nat.le_refl _) _⟩
theorem Ny {C:dT}:One C 0:=by
 intro w i st ins und hu h
 obtain ⟨-,-,-,-,c4⟩:=h.cells
 have hb:=qC h und 7 (by omega)
 go_enter Tryz.func277,Tryz.ntmps277
 go_wp2_with (go_at_call 138;refine hb.mono ?_;rintro e w1 ⟨q,rfl,hq⟩;exact ⟨rfl,by rw[one];exact ⟨q,rfl,hq⟩⟩)
theorem Iw {C:dT}{k:Nat}(ho:One C k) (w:World) (i st ins und:Nat) (hu:und+(k+1)=7) (h:PS C w i st ins und) (hc0:bG (tx C.L i)≠0):Calls Tryz.prog 277 #[.pointer (some ⟨C.rb,0,none⟩)] w (uJ C (Sz C w st ins und) w (one C.L (k+1) i)):=by
 obtain ⟨-,-,-,-,c4⟩:=h.cells
 obtain ⟨tb,htb⟩:∃tb:ByteArray,Hid (bs tb=tx C.L i):=⟨⟨(tx C.L i).toArray⟩,rfl⟩
 obtain ⟨c,hcc⟩:∃c,Hid (bG (bs tb)=c):=⟨_,rfl⟩
 have hcc':Hid (bG (tx C.L i)=c):=by rw[Hid,<-htb.out];exact hcc.out
 have hb:=fun w=>jS (C:=C) (w:=w) und 7 (by omega)
 have H0:Hid _:=hc0
 have hne:tx C.L i≠[]:=by intro e;rw[e] at hc0;exact hc0 (by decide)
 have hnx:=h.wf.next h.lt hne
 have hl6:=h.wf.len
 rw[hcc'.out] at hc0
 have hc1:¬(c:Int)=0:=by omega
 have hc2:((c:Int) != 0)=true:=by simpa using hc1
 have HE:∀f,Hid (one C.L k (i+1)=.error f)->Hid (one C.L (k+1) i=.error f):=fun f hr=>by rw[Hid,one,if_pos H0.out,hr.out]
 have HO:∀e j,Hid (one C.L k (i+1)=.ok (e,j))->Hid (one C.L (k+1) i=.ok (Ri c e,j)):=fun e j hr=>by rw[Hid,one,if_pos H0.out,hr.out,hcc'.out]
 clear hne hc0
 go_enter Tryz.func277,Tryz.ntmps277
 go_wp2_with (first
  | (go_at_call 138;refine (hb _).mono ?_;rintro e w' ⟨rfl,hw⟩;obtain rfl:=hw.symm)
  | (go_at_call 137;refine (eD h tb htb).mono ?_;rintro e w2 ⟨rfl,hp2,hf2⟩)
  | (go_at_call 281;refine (jR hp2 tb c hcc).mono ?_;rintro e w3 ⟨rfl,hp3,hf3⟩;obtain ⟨-,d1,-,-,d4⟩:=hp3.cells;have z1:=hp3.frozen 1;have z4:=hp3.frozen 4;obtain ⟨hp4,hf4⟩:=hp3.step hnx;obtain ⟨hp5,hf5⟩:=hp4.down;have hF5:=((hf2.wide (X:=[C.rb])).up hf3.wide).up (hf4.up hf5))
  | (go_at_call 277;refine (ho _ (i+1) st ins (und+1) (by omega) hp5).mono ?_;rintro e w6 h6;rcases h6.cases with ⟨f,hr6,q,rfl,hq⟩|⟨⟨e6,i6⟩,v6,hr6,rfl,⟨hv6,hp6⟩,hf6⟩;(· exact ⟨rfl,by rw[(HE _ hr6).out];exact aP.up hF5 ⟨q,rfl,hq⟩⟩);obtain ⟨p6,rfl⟩:=hv6.ptr;obtain ⟨-,-,-,-,b4⟩:=hp6.cells;have y4:=hp6.frozen 4;have l6:=hp6.lts.1))
 go_ret
 rw[(HO _ _ hr6).out]
 obtain ⟨hp7,hf7⟩:=hp6.upAgain
 obtain ⟨hp8,hf8⟩:=hp7.alloc (.cells #[.int .i64 c,.int .i64 0,.string ⟨#[]⟩,.pointer p6,.pointer none] 335)
 exact ⟨_,rfl,⟨Vl (by simp) (hF5.up hf6).size ((hv6.ge hF5.size).carry (tP h.lts.1 hf7)),hp8⟩,((hF5.up hf6).up hf7).up hf8⟩
theorem Uo {C:dT}{k:Nat}(hch:yK C k 5) (w:World) (i st ins und:Nat) (hu:und+(k+1)=7) (h:PS C w i st ins und) (hc0:bG (tx C.L i)=0) (hpar:tx C.L i=F8):Calls Tryz.prog 277 #[.pointer (some ⟨C.rb,0,none⟩)] w (uJ C (Sz C w st ins und) w (one C.L (k+1) i)):=by
 obtain ⟨-,-,-,-,c4⟩:=h.cells
 obtain ⟨tb,htb⟩:∃tb:ByteArray,Hid (bs tb=tx C.L i):=⟨⟨(tx C.L i).toArray⟩,rfl⟩
 have hcc:Hid (bG (bs tb)=0):=by rw[Hid,htb.out];exact hc0
 have hb:=fun w=>jS (C:=C) (w:=w) und 7 (by omega)
 have HE:∀f,Hid (yQ C.L (one C.L k) 5 (i+1)=.error f)->Hid (one C.L (k+1) i=.error f):=fun f hr=>by rw[Hid,one,if_neg (by simp[hc0]),if_pos hpar,hr.out]
 have HO:∀e j,Hid (yQ C.L (one C.L k) 5 (i+1)=.ok (e,j))->Hid (one C.L (k+1) i=if tx C.L j=Dc then .ok (e,j+1) else .error (3,pl C.L j)):=fun e j hr=>by rw[Hid,one,if_neg (by simp[hc0]),if_pos hpar,hr.out]
 have HP:Hid _:=hpar
 clear hc0 hpar
 go_enter Tryz.func277,Tryz.ntmps277
 go_wp2_with (first
  | (go_at_call 138;refine (hb _).mono ?_;rintro e w' ⟨rfl,hw⟩;obtain rfl:=hw.symm)
  | (go_at_call 137;refine (eD h tb htb).mono ?_;rintro e w2 ⟨rfl,hp2,hf2⟩)
  | (go_at_call 281;refine (jR hp2 tb 0 hcc).mono ?_;rintro e w3 ⟨rfl,hp3,hf3⟩)
  | (go_at_call 140;refine (dM hp3 ⟨#[40]⟩ HP.out (by decide)).mono ?_;rintro e w4 ⟨rfl,hp4,hf4⟩;obtain ⟨-,-,-,-,d4⟩:=hp4.cells;have z4:=hp4.frozen 4;obtain ⟨hp5,hf5⟩:=hp4.down;have hF5:=((hf2.wide (X:=[C.rb])).up hf3.wide).up (hf4.up hf5))
  | (go_at_call 254;refine (xI hch _ (i+1) st ins (und+1) (by omega) hp5).mono ?_;rintro e w6 h6;rcases h6.cases with ⟨f,hr6,q,rfl,hq⟩|⟨⟨e6,i6⟩,v6,hr6,rfl,⟨hv6,hp6⟩,hf6⟩;(· exact ⟨rfl,by rw[(HE _ hr6).out];exact aP.up hF5 ⟨q,rfl,hq⟩⟩);obtain ⟨p6,rfl⟩:=hv6.ptr;obtain ⟨-,-,-,-,b4⟩:=hp6.cells;have y4:=hp6.frozen 4;obtain ⟨hp7,hf7⟩:=hp6.upAgain)
  | (go_at_call 132;refine (bT hp7 ⟨#[41]⟩ Dc rfl (by decide)).mono ?_;rintro e w8 h8;rcases h8.cases with ⟨f,hr8,q,rfl,hq⟩|⟨_,v8,hr8,rfl,⟨rfl,hp8⟩,hf8⟩;(· exact ⟨rfl,by
      rw[(HO _ _ hr6).out]
      have hr9:=hr8.out
      rw[vD] at hr9
      split at hr9
      ·exact absurd hr9 (by simp)
      ·rename_i hn
       rw[if_neg hn]
       injection hr9 with hr9
       rw[hr9]
       exact aP.up ((hF5.up hf6).up hf7) ⟨q,rfl,hq⟩⟩)))
 go_ret
 have hn:tx C.L i6=Dc:=by
  have hr9:=hr8.out
  rw[vD] at hr9
  split at hr9
  ·assumption
  ·exact absurd hr9 (by simp)
 rw[(HO _ _ hr6).out,if_pos hn]
 exact ⟨_,rfl,⟨((hv6.ge hF5.size).carry (tP h.lts.1 hf7)).carry (tP h.lts.1 hf8),hp8⟩,((hF5.up hf6).up hf7).up hf8⟩
end
end Go.Proofs.YtcdbhoknhnimcaaGreatDoor
