import Derived.Test.YthieaobjdpfcoaaGreatDoorVRead
import Derived.Test.YthieaobjdpfcoaaGreatDoorVCr
import Derived.Deep.LoopGhost
set_option maxRecDepth 100000
set_option maxHeartbeats 2000000
namespace Go.Proofs.YthieaobjdpfcoaaGreatDoor
open Go.RowKit Px
theorem Oz (a b:ByteArray):(a.toList==b.toList)=decide (bs a=bs b):=by
 rw[ByteArray.toList_eq,ByteArray.toList_eq,Bool.eq_iff_iff]
 simp only[beq_iff_eq,decide_eq_true_eq]
theorem sS (a b:ByteArray) (h:bs a=bs b):(a.toList==b.toList)=true:=by rw[Oz];exact decide_eq_true h
theorem yC (a b:ByteArray) (h:bs a≠bs b):(a.toList==b.toList)=false:=by rw[Oz];exact decide_eq_false h
def qD (w:World) (b:Nat) (cs:List Value):Prop:=∀i v,cs[i]?=some v->w.cell? ⟨b,i,none⟩=some v
def kindsL:List bE:=[[],Sa,Ij,aK6]
def leadsL:List bE:=[G0,Sc,Zp]
def oV (p:bE×Nat):List Value:=[sv p.1,.int .i64 p.2]
def aheadL:List (bE×Nat):=[(vE,4),(aK7,5)]
def aB7 (l:List (bE×Nat)):List (bE×Nat):=(l++[([],0),([],0),([],0)]).take 4
def betweenL:List (List (bE×Nat)):=signs.map aB7
structure rD (w:World):Prop where
 words:qD w 2 (words.map sv)
 kinds:qD w 1 (kindsL.map sv)
 leads:qD w 3 (leadsL.map sv)
 ahead:qD w 7 (aheadL.flatMap oV)
 between:qD w 6 (betweenL.flatMap (·.flatMap oV))
theorem qD.keep {w w':World}{b:Nat}{cs:List Value}(h:qD w b cs) (hb:w'.heap[b]?=w.heap[b]?):qD w' b cs:=fun i v hv=>by
 rw[aY4 (w:=w) (a:=⟨b,i,none⟩) hb];exact h i v hv
theorem rD.keep {w w':World}(h:rD w) (hb:∀b,b<11->w'.heap[b]?=w.heap[b]?):rD w':=
 ⟨h.words.keep (hb 2 (by omega)),h.kinds.keep (hb 1 (by omega)),h.leads.keep (hb 3 (by omega)),h.ahead.keep (hb 7 (by omega)),h.between.keep (hb 6 (by omega))⟩
theorem yT (T n:Nat) (w:World) (b o:Nat) (cs:List Value) (k:(isAgg T).run Tryz.prog w=.ok true w) (hsz:(sizeOf T).run Tryz.prog w=.ok n w) (s:cs.length=n)
    (h:∀j v,cs[j]?=some v->w.cell? ⟨b,o+j,none⟩=some v):(loadVar T ⟨b,o,none⟩).run Tryz.prog w=.ok (.agg cs.toArray) w:=by
 have l:=run_loadCells_list (P:=Tryz.prog) w ⟨b,o,none⟩ cs (fun j v r=>by
  have c:(⟨b,o,none⟩:Addr).add j=⟨b,o+j,none⟩:=by unfold Addr.add;split<;>simp_all
  rw[c];exact h j v r)
 rw[s] at l
 unfold loadVar
 rw[Sem.run_bind,k]
 simp only[Result.andThen,if_true,Sem.run_bind,hsz,l]
 rfl
theorem tH (T n:Nat) (w:World) (b:Nat) (cs:List Value) (hagg:(isAgg T).run Tryz.prog w=.ok true w) (hsz:(sizeOf T).run Tryz.prog w=.ok n w) (hn:cs.length=n) (h:qD w b cs):(loadVar T ⟨b,0,none⟩).run Tryz.prog w=.ok (.agg cs.toArray) w:=
 yT T n w b 0 cs hagg hsz hn (fun j v hv=>by rw[aX1];exact h j v hv)
def WV:Array Value:=(words.map sv).toArray
theorem wx0 (w:World):(Instr.index 215 (.agg WV) (.int .i64 0)).run Tryz.prog w=.ok (sv (words.getD 0 [])) w:=by kernel_rfl
theorem wx1 (w:World):(Instr.index 215 (.agg WV) (.int .i64 1)).run Tryz.prog w=.ok (sv (words.getD 1 [])) w:=by kernel_rfl
theorem Q8 (w:World):(Instr.index 215 (.agg WV) (.int .i64 2)).run Tryz.prog w=.ok (sv (words.getD 2 [])) w:=by kernel_rfl
theorem wx3 (w:World):(Instr.index 215 (.agg WV) (.int .i64 3)).run Tryz.prog w=.ok (sv (words.getD 3 [])) w:=by kernel_rfl
theorem wx4 (w:World):(Instr.index 215 (.agg WV) (.int .i64 4)).run Tryz.prog w=.ok (sv (words.getD 4 [])) w:=by kernel_rfl
theorem wx5 (w:World):(Instr.index 215 (.agg WV) (.int .i64 5)).run Tryz.prog w=.ok (sv (words.getD 5 [])) w:=by kernel_rfl
theorem wx6 (w:World):(Instr.index 215 (.agg WV) (.int .i64 6)).run Tryz.prog w=.ok (sv (words.getD 6 [])) w:=by kernel_rfl
theorem wx7 (w:World):(Instr.index 215 (.agg WV) (.int .i64 7)).run Tryz.prog w=.ok (sv (words.getD 7 [])) w:=by kernel_rfl
theorem wx8 (w:World):(Instr.index 215 (.agg WV) (.int .i64 8)).run Tryz.prog w=.ok (sv (words.getD 8 [])) w:=by kernel_rfl
theorem wx9 (w:World):(Instr.index 215 (.agg WV) (.int .i64 9)).run Tryz.prog w=.ok (sv (words.getD 9 [])) w:=by kernel_rfl
theorem aQ7 (w:World):(Instr.index 215 (.agg WV) (.int .i64 10)).run Tryz.prog w=.ok (sv (words.getD 10 [])) w:=by kernel_rfl
theorem aQ6 (w:World):(Instr.index 215 (.agg WV) (.int .i64 11)).run Tryz.prog w=.ok (sv (words.getD 11 [])) w:=by kernel_rfl
theorem aQ5 (w:World):(Instr.index 215 (.agg WV) (.int .i64 12)).run Tryz.prog w=.ok (sv (words.getD 12 [])) w:=by kernel_rfl
theorem aQ4 (w:World):(Instr.index 215 (.agg WV) (.int .i64 13)).run Tryz.prog w=.ok (sv (words.getD 13 [])) w:=by kernel_rfl
theorem aQ3 (w:World):(Instr.index 215 (.agg WV) (.int .i64 14)).run Tryz.prog w=.ok (sv (words.getD 14 [])) w:=by kernel_rfl
theorem aQ2 (w:World):(Instr.index 215 (.agg WV) (.int .i64 15)).run Tryz.prog w=.ok (sv (words.getD 15 [])) w:=by kernel_rfl
theorem aQ1 (w:World):(Instr.index 215 (.agg WV) (.int .i64 16)).run Tryz.prog w=.ok (sv (words.getD 16 [])) w:=by kernel_rfl
theorem aQ0 (w:World):(Instr.index 215 (.agg WV) (.int .i64 17)).run Tryz.prog w=.ok (sv (words.getD 17 [])) w:=by kernel_rfl
theorem aP9 (w:World):(Instr.index 215 (.agg WV) (.int .i64 18)).run Tryz.prog w=.ok (sv (words.getD 18 [])) w:=by kernel_rfl
theorem aP8 (w:World):(Instr.index 215 (.agg WV) (.int .i64 19)).run Tryz.prog w=.ok (sv (words.getD 19 [])) w:=by kernel_rfl
theorem aP7 (w:World):(Instr.index 215 (.agg WV) (.int .i64 20)).run Tryz.prog w=.ok (sv (words.getD 20 [])) w:=by kernel_rfl
theorem Bb (k:Nat) (c:k<21) (w:World):(Instr.index 215 (.agg WV) (.int .i64 k)).run Tryz.prog w=.ok (sv (words.getD k [])) w:=by
 match k,c with
 | 0,_=>exact wx0 w
 | 1,_=>exact wx1 w
 | 2,_=>exact Q8 w
 | 3,_=>exact wx3 w
 | 4,_=>exact wx4 w
 | 5,_=>exact wx5 w
 | 6,_=>exact wx6 w
 | 7,_=>exact wx7 w
 | 8,_=>exact wx8 w
 | 9,_=>exact wx9 w
 | 10,_=>exact aQ7 w
 | 11,_=>exact aQ6 w
 | 12,_=>exact aQ5 w
 | 13,_=>exact aQ4 w
 | 14,_=>exact aQ3 w
 | 15,_=>exact aQ2 w
 | 16,_=>exact aQ1 w
 | 17,_=>exact aQ0 w
 | 18,_=>exact aP9 w
 | 19,_=>exact aP8 w
 | 20,_=>exact aP7 w
 | k+21,h=>omega
theorem aE0 (k:Nat) (h:k<21):kw (words.getD k [])=true:=by
 have:∀k:Fin 21,kw (words.getD k.val [])=true:=by decide
 exact this ⟨k,h⟩
theorem aK5 (s:bE) (h:∀j,j<21->words.getD j []≠s):kw s=false:=by
 rw[Bool.eq_false_iff]
 intro c
 simp only[kw,List.any_eq_true,beq_iff_eq] at c
 obtain ⟨x,hx,rfl⟩:=c
 obtain ⟨j,k,rfl⟩:=List.mem_iff_getElem.1 hx
 exact h j k (by rw[iO,aN3 k];rfl)
theorem wQ (s:ByteArray) (w:World) (u:rD w):Calls Tryz.prog 148 #[.string s] w fun e w'=>e=.returned (.bool (kw (bs s)))/\w'=w:=by
 have n:(loadVar 215 ⟨2,0,none⟩).run Tryz.prog w=.ok (.agg WV) w:=tH 215 21 w 2 _ (by kernel_rfl) (by kernel_rfl) (by decide) u.words
 clear u
 go_enter Tryz.func148,Tryz.ntmps148
 go_wp2_with (refine cM rfl 215 (.global 2) rfl ⟨2,0,none⟩ rfl (.agg WV) n ?_;clear n)
 go_loop [6] (fun i=>∃k:Nat,k≤21/\i=.int .i64 k/\Hid (∀j,j<k->words.getD j []≠bs s)) (fun i=>21-(intOf i).toNat)
 case atStart=>exact ⟨0,by omega,rfl,fun j y=>absurd y (by omega)⟩
 case round=>
  obtain ⟨k,O,rfl,r⟩:=hrel
  by_cases hlt:k<21
  ·obtain ⟨h,c⟩:∃h:ByteArray,h=⟨(words.getD k []).toArray⟩:=⟨_,rfl⟩
   have D:∀w,(Instr.index 215 (.agg WV) (.int .i64 k)).run Tryz.prog w=.ok (.string h) w:=by
    intro w;rw[c];exact Bb k hlt w
   have l:Hid (bs h=words.getD k []):=by
    show _=_;rw[c]
   clear c
   by_cases heq:bs h=bs s
   ·have J:=sS h s heq
    have H:Hid (kw (bs s)=true):=by rw[Hid,<-heq,l.out];exact aE0 k hlt
    clear heq
    go_wp2
    go_ret
    exact ⟨mX H.out.symm,rfl⟩
   ·have J:=yC h s heq
    have H:Hid (∀j,j<k+1->words.getD j []≠bs s):=by
     intro j I
     by_cases e:j=k
     ·subst e;rw[<-l.out];exact heq
     ·exact r.out j (by omega)
    clear heq
    go_wp2
    go_round
    case rel=>exact ⟨k+1,by omega,by go_num,H⟩
    case measure=>simp[intOf];omega
  ·have H:Hid (kw (bs s)=false):=aK5 _ (fun j y=>r.out j (by omega))
   go_wp2
   go_ret
   exact ⟨mX H.out.symm,rfl⟩
def KV:Array Value:=(kindsL.map sv).toArray
theorem kx0 (w:World):(Instr.index 217 (.agg KV) (.int .i64 0)).run Tryz.prog w=.ok (sv (kindsL.getD 0 [])) w:=by kernel_rfl
theorem kx1 (w:World):(Instr.index 217 (.agg KV) (.int .i64 1)).run Tryz.prog w=.ok (sv (kindsL.getD 1 [])) w:=by kernel_rfl
theorem kx2 (w:World):(Instr.index 217 (.agg KV) (.int .i64 2)).run Tryz.prog w=.ok (sv (kindsL.getD 2 [])) w:=by kernel_rfl
theorem X1 (w:World):(Instr.index 217 (.agg KV) (.int .i64 3)).run Tryz.prog w=.ok (sv (kindsL.getD 3 [])) w:=by kernel_rfl
theorem Bf (k:Nat) (c:k<4) (w:World):(Instr.index 217 (.agg KV) (.int .i64 k)).run Tryz.prog w=.ok (sv (kindsL.getD k [])) w:=by
 match k,c with
 | 0,_=>exact kx0 w
 | 1,_=>exact kx1 w
 | 2,_=>exact kx2 w
 | 3,_=>exact X1 w
 | k+4,h=>omega
theorem Ly (k:Nat) (h:k<4):dY (kindsL.getD k [])=k:=by
 have:∀k:Fin 4,dY (kindsL.getD k.val [])=k.val:=by decide
 exact this ⟨k,h⟩
theorem Ay (s:bE) (h:∀j,j<4->kindsL.getD j []≠s):dY s=0:=by
 unfold dY
 rw[if_neg (fun e=>h 1 (by omega) e.symm),if_neg (fun e=>h 2 (by omega) e.symm),if_neg (fun e=>h 3 (by omega) e.symm)]
theorem Fi (s:ByteArray) (w:World) (u:rD w):Calls Tryz.prog 105 #[.string s] w fun e w'=>e=.returned (.int .i64 (dY (bs s):Nat))/\w'=w:=by
 have n:(loadVar 217 ⟨1,0,none⟩).run Tryz.prog w=.ok (.agg KV) w:=tH 217 4 w 1 _ (by kernel_rfl) (by kernel_rfl) (by decide) u.kinds
 clear u
 go_enter Tryz.func105,Tryz.ntmps105
 go_wp2_with (refine cM rfl 217 (.global 1) rfl ⟨1,0,none⟩ rfl (.agg KV) n ?_;clear n)
 go_loop [6] (fun i=>∃k:Nat,k≤4/\i=.int .i64 k/\Hid (∀j,j<k->kindsL.getD j []≠bs s)) (fun i=>4-(intOf i).toNat)
 case atStart=>exact ⟨0,by omega,rfl,fun j y=>absurd y (by omega)⟩
 case round=>
  obtain ⟨k,O,rfl,r⟩:=hrel
  by_cases hlt:k<4
  ·obtain ⟨h,c⟩:∃h:ByteArray,h=⟨(kindsL.getD k []).toArray⟩:=⟨_,rfl⟩
   have D:∀w,(Instr.index 217 (.agg KV) (.int .i64 k)).run Tryz.prog w=.ok (.string h) w:=by
    intro w;rw[c];exact Bf k hlt w
   have l:Hid (bs h=kindsL.getD k []):=by
    show _=_;rw[c]
   clear c
   by_cases heq:bs h=bs s
   ·have J:=sS h s heq
    have H:Hid (dY (bs s)=k):=by rw[Hid,<-heq,l.out];exact Ly k hlt
    clear heq
    go_wp2
    go_ret
    exact ⟨fN (by rw[H.out]),rfl⟩
   ·have J:=yC h s heq
    have H:Hid (∀j,j<k+1->kindsL.getD j []≠bs s):=by
     intro j I
     by_cases e:j=k
     ·subst e;rw[<-l.out];exact heq
     ·exact r.out j (by omega)
    clear heq
    go_wp2
    go_round
    case rel=>exact ⟨k+1,by omega,by go_num,H⟩
    case measure=>simp[intOf];omega
  ·have H:Hid (dY (bs s)=0):=Ay _ (fun j y=>r.out j (by omega))
   go_wp2
   go_ret
   exact ⟨fN (by rw[H.out];rfl),rfl⟩
def LV:Array Value:=(leadsL.map sv).toArray
theorem lx0 (w:World):(Instr.index 316 (.agg LV) (.int .i64 0)).run Tryz.prog w=.ok (sv (leadsL.getD 0 [])) w:=by kernel_rfl
theorem lx1 (w:World):(Instr.index 316 (.agg LV) (.int .i64 1)).run Tryz.prog w=.ok (sv (leadsL.getD 1 [])) w:=by kernel_rfl
theorem lx2 (w:World):(Instr.index 316 (.agg LV) (.int .i64 2)).run Tryz.prog w=.ok (sv (leadsL.getD 2 [])) w:=by kernel_rfl
theorem Be (k:Nat) (c:k<3) (w:World):(Instr.index 316 (.agg LV) (.int .i64 k)).run Tryz.prog w=.ok (sv (leadsL.getD k [])) w:=by
 match k,c with
 | 0,_=>exact lx0 w
 | 1,_=>exact lx1 w
 | 2,_=>exact lx2 w
 | k+3,h=>omega
theorem Lu (k:Nat) (h:k<3):cZ (leadsL.getD k [])=some k:=by
 have:∀k:Fin 3,cZ (leadsL.getD k.val [])=some k.val:=by decide
 exact this ⟨k,h⟩
theorem Av (s:bE) (h:∀j,j<3->leadsL.getD j []≠s):cZ s=none:=by
 unfold cZ
 rw[if_neg (fun e=>h 0 (by omega) e.symm),if_neg (fun e=>h 1 (by omega) e.symm),if_neg (fun e=>h 2 (by omega) e.symm)]
def rL:Option Nat->Value
 | some k=>.tuple #[.int .i64 k,.bool true]
 | none=>.tuple #[.int .i64 0,.bool false]
theorem Ff (s:ByteArray) (w:World) (u:rD w):Calls Tryz.prog 223 #[.string s] w fun e w'=>e=.returned (rL (cZ (bs s)))/\w'=w:=by
 have n:(loadVar 316 ⟨3,0,none⟩).run Tryz.prog w=.ok (.agg LV) w:=tH 316 3 w 3 _ (by kernel_rfl) (by kernel_rfl) (by decide) u.leads
 clear u
 go_enter Tryz.func223,Tryz.ntmps223
 go_wp2_with (refine cM rfl 316 (.global 3) rfl ⟨3,0,none⟩ rfl (.agg LV) n ?_;clear n)
 go_loop [7] (fun i=>∃k:Nat,k≤3/\i=.int .i64 k/\Hid (∀j,j<k->leadsL.getD j []≠bs s)) (fun i=>3-(intOf i).toNat)
 case atStart=>exact ⟨0,by omega,rfl,fun j y=>absurd y (by omega)⟩
 case round=>
  obtain ⟨k,O,rfl,r⟩:=hrel
  by_cases hlt:k<3
  ·obtain ⟨h,c⟩:∃h:ByteArray,h=⟨(leadsL.getD k []).toArray⟩:=⟨_,rfl⟩
   have D:∀w,(Instr.index 316 (.agg LV) (.int .i64 k)).run Tryz.prog w=.ok (.string h) w:=by
    intro w;rw[c];exact Be k hlt w
   have l:Hid (bs h=leadsL.getD k []):=by
    show _=_;rw[c]
   clear c
   by_cases heq:bs h=bs s
   ·have J:=sS h s heq
    have H:Hid (cZ (bs s)=some k):=by rw[Hid,<-heq,l.out];exact Lu k hlt
    clear heq
    go_wp2
    go_ret2
    exact ⟨by rw[H.out];rfl,rfl⟩
   ·have J:=yC h s heq
    have H:Hid (∀j,j<k+1->leadsL.getD j []≠bs s):=by
     intro j I
     by_cases e:j=k
     ·subst e;rw[<-l.out];exact heq
     ·exact r.out j (by omega)
    clear heq
    go_wp2
    go_round
    case rel=>exact ⟨k+1,by omega,by go_num,H⟩
    case measure=>simp[intOf];omega
  ·have H:Hid (cZ (bs s)=none):=Av _ (fun j y=>r.out j (by omega))
   go_wp2
   go_ret2
   exact ⟨by rw[H.out];rfl,rfl⟩
def AV:Array Value:=(aheadL.flatMap oV).toArray
theorem ax0 (w:World):(Instr.index 332 (.agg AV) (.int .i64 0)).run Tryz.prog w=.ok (.agg (oV (aheadL.getD 0 ([],0))).toArray) w:=by kernel_rfl
theorem ax1 (w:World):(Instr.index 332 (.agg AV) (.int .i64 1)).run Tryz.prog w=.ok (.agg (oV (aheadL.getD 1 ([],0))).toArray) w:=by kernel_rfl
theorem Bg (k:Nat) (c:k<2) (w:World):(Instr.index 332 (.agg AV) (.int .i64 k)).run Tryz.prog w=.ok (.agg (oV (aheadL.getD k ([],0))).toArray) w:=by
 match k,c with
 | 0,_=>exact ax0 w
 | 1,_=>exact ax1 w
 | k+2,h=>omega
theorem U9 (k:Nat) (h:k<2):bP (aheadL.getD k ([],0)).1=(aheadL.getD k ([],0)).2:=by
 have:∀k:Fin 2,bP (aheadL.getD k.val ([],0)).1=(aheadL.getD k.val ([],0)).2:=by decide
 exact this ⟨k,h⟩
theorem zF (s:bE) (h:∀j,j<2->(aheadL.getD j ([],0)).1≠s):bP s=0:=by
 unfold bP
 rw[if_neg (fun e=>h 0 (by omega) e.symm),if_neg (fun e=>h 1 (by omega) e.symm)]
theorem A9 (s:ByteArray) (w:World) (J:rD w):Calls Tryz.prog 253 #[.string s] w fun e w'=>e=.returned (.int .i64 (bP (bs s):Nat))/\Below w.heap.size w w':=by
 have D:(loadVar 332 ⟨7,0,none⟩).run Tryz.prog w=.ok (.agg AV) w:=tH 332 4 w 7 _ (by kernel_rfl) (by kernel_rfl) (by decide) J.ahead
 clear J
 go_enter Tryz.func253,Tryz.ntmps253
 go_wp2_with (refine cM rfl 332 (.global 7) rfl ⟨7,0,none⟩ rfl (.agg AV) D ?_;clear D)
 go_loopg [6] 2 (fun g i wr=>∃k:Nat,g=2-k/\k≤2/\i=.int .i64 k/\Hid (∀j,j<k->(aheadL.getD j ([],0)).1≠bs s)/\Below w.heap.size w wr)
 case atStart=>exact ⟨0,by omega,by omega,rfl,fun j O=>absurd O (by omega),Below.refl _ _⟩
 case round=>
  obtain ⟨k,rfl,Z,rfl,I,h⟩:=hrel
  have u:=h.size
  by_cases hlt:k<2
  ·obtain ⟨n,c,l,y⟩:∃(n:ByteArray) (c:Nat),n=⟨(aheadL.getD k ([],0)).1.toArray⟩/\c=(aheadL.getD k ([],0)).2:=⟨_,_,rfl,rfl⟩
   have Q:∀w,(Instr.index 332 (.agg AV) (.int .i64 k)).run Tryz.prog w=.ok (.agg #[.string n,.int .i64 c]) w:=by
    intro w;rw[l,y];exact Bg k hlt w
   have r:Hid (bs n=(aheadL.getD k ([],0)).1):=by
    show _=_;rw[l]
   have Y:Hid (c=(aheadL.getD k ([],0)).2):=y
   clear l y
   by_cases heq:bs n=bs s
   ·have X:=sS n s heq
    have H:Hid (bP (bs s)=c):=by rw[Hid,<-heq,r.out,Y.out];exact U9 k hlt
    clear heq
    go_wp2
    go_ret
    exact ⟨fN (by rw[H.out]),h.alloc u _⟩
   ·have X:=yC n s heq
    have H:Hid (∀j,j<k+1->(aheadL.getD j ([],0)).1≠bs s):=by
     intro j U
     by_cases e:j=k
     ·subst e;rw[<-r.out];exact heq
     ·exact I.out j (by omega)
    clear heq
    go_wp2
    go_roundg (2-(k+1))
    case measure=>omega
    case rel=>exact ⟨k+1,rfl,by omega,by go_num,H,h.alloc u _⟩
  ·have H:Hid (bP (bs s)=0):=zF _ (fun j O=>I.out j (by omega))
   go_wp2
   go_ret
   exact ⟨fN (by rw[H.out];rfl),h⟩
def BV (t:Nat):Array Value:=((betweenL.getD t []).flatMap oV).toArray
def jQ (t k:Nat):bE×Nat:=(betweenL.getD t []).getD k ([],0)
theorem aV7 (w:World):(Instr.index 329 (.agg (BV 0)) (.int .i64 0)).run Tryz.prog w=.ok (.agg #[sv (jQ 0 0).1,.int .i64 (jQ 0 0).2]) w:=by kernel_rfl
theorem aV6 (w:World):(Instr.index 329 (.agg (BV 0)) (.int .i64 1)).run Tryz.prog w=.ok (.agg #[sv (jQ 0 1).1,.int .i64 (jQ 0 1).2]) w:=by kernel_rfl
theorem aV5 (w:World):(Instr.index 329 (.agg (BV 0)) (.int .i64 2)).run Tryz.prog w=.ok (.agg #[sv (jQ 0 2).1,.int .i64 (jQ 0 2).2]) w:=by kernel_rfl
theorem aV4 (w:World):(Instr.index 329 (.agg (BV 0)) (.int .i64 3)).run Tryz.prog w=.ok (.agg #[sv (jQ 0 3).1,.int .i64 (jQ 0 3).2]) w:=by kernel_rfl
theorem aV3 (w:World):(Instr.index 329 (.agg (BV 1)) (.int .i64 0)).run Tryz.prog w=.ok (.agg #[sv (jQ 1 0).1,.int .i64 (jQ 1 0).2]) w:=by kernel_rfl
theorem aV2 (w:World):(Instr.index 329 (.agg (BV 1)) (.int .i64 1)).run Tryz.prog w=.ok (.agg #[sv (jQ 1 1).1,.int .i64 (jQ 1 1).2]) w:=by kernel_rfl
theorem aV1 (w:World):(Instr.index 329 (.agg (BV 1)) (.int .i64 2)).run Tryz.prog w=.ok (.agg #[sv (jQ 1 2).1,.int .i64 (jQ 1 2).2]) w:=by kernel_rfl
theorem aV0 (w:World):(Instr.index 329 (.agg (BV 1)) (.int .i64 3)).run Tryz.prog w=.ok (.agg #[sv (jQ 1 3).1,.int .i64 (jQ 1 3).2]) w:=by kernel_rfl
theorem aU9 (w:World):(Instr.index 329 (.agg (BV 2)) (.int .i64 0)).run Tryz.prog w=.ok (.agg #[sv (jQ 2 0).1,.int .i64 (jQ 2 0).2]) w:=by kernel_rfl
theorem aU8 (w:World):(Instr.index 329 (.agg (BV 2)) (.int .i64 1)).run Tryz.prog w=.ok (.agg #[sv (jQ 2 1).1,.int .i64 (jQ 2 1).2]) w:=by kernel_rfl
theorem aU7 (w:World):(Instr.index 329 (.agg (BV 2)) (.int .i64 2)).run Tryz.prog w=.ok (.agg #[sv (jQ 2 2).1,.int .i64 (jQ 2 2).2]) w:=by kernel_rfl
theorem aU6 (w:World):(Instr.index 329 (.agg (BV 2)) (.int .i64 3)).run Tryz.prog w=.ok (.agg #[sv (jQ 2 3).1,.int .i64 (jQ 2 3).2]) w:=by kernel_rfl
theorem aU5 (w:World):(Instr.index 329 (.agg (BV 3)) (.int .i64 0)).run Tryz.prog w=.ok (.agg #[sv (jQ 3 0).1,.int .i64 (jQ 3 0).2]) w:=by kernel_rfl
theorem aU4 (w:World):(Instr.index 329 (.agg (BV 3)) (.int .i64 1)).run Tryz.prog w=.ok (.agg #[sv (jQ 3 1).1,.int .i64 (jQ 3 1).2]) w:=by kernel_rfl
theorem aU3 (w:World):(Instr.index 329 (.agg (BV 3)) (.int .i64 2)).run Tryz.prog w=.ok (.agg #[sv (jQ 3 2).1,.int .i64 (jQ 3 2).2]) w:=by kernel_rfl
theorem aU2 (w:World):(Instr.index 329 (.agg (BV 3)) (.int .i64 3)).run Tryz.prog w=.ok (.agg #[sv (jQ 3 3).1,.int .i64 (jQ 3 3).2]) w:=by kernel_rfl
theorem aU1 (w:World):(Instr.index 329 (.agg (BV 4)) (.int .i64 0)).run Tryz.prog w=.ok (.agg #[sv (jQ 4 0).1,.int .i64 (jQ 4 0).2]) w:=by kernel_rfl
theorem aU0 (w:World):(Instr.index 329 (.agg (BV 4)) (.int .i64 1)).run Tryz.prog w=.ok (.agg #[sv (jQ 4 1).1,.int .i64 (jQ 4 1).2]) w:=by kernel_rfl
theorem aT9 (w:World):(Instr.index 329 (.agg (BV 4)) (.int .i64 2)).run Tryz.prog w=.ok (.agg #[sv (jQ 4 2).1,.int .i64 (jQ 4 2).2]) w:=by kernel_rfl
theorem aT8 (w:World):(Instr.index 329 (.agg (BV 4)) (.int .i64 3)).run Tryz.prog w=.ok (.agg #[sv (jQ 4 3).1,.int .i64 (jQ 4 3).2]) w:=by kernel_rfl
theorem Mj (t k:Nat) (j:t<5) (c:k<4) (w:World):(Instr.index 329 (.agg (BV t)) (.int .i64 k)).run Tryz.prog w=.ok (.agg #[sv (jQ t k).1,.int .i64 (jQ t k).2]) w:=by
 match t,j,k,c with
 | 0,_,0,_=>exact aV7 w
 | 0,_,1,_=>exact aV6 w
 | 0,_,2,_=>exact aV5 w
 | 0,_,3,_=>exact aV4 w
 | 1,_,0,_=>exact aV3 w
 | 1,_,1,_=>exact aV2 w
 | 1,_,2,_=>exact aV1 w
 | 1,_,3,_=>exact aV0 w
 | 2,_,0,_=>exact aU9 w
 | 2,_,1,_=>exact aU8 w
 | 2,_,2,_=>exact aU7 w
 | 2,_,3,_=>exact aU6 w
 | 3,_,0,_=>exact aU5 w
 | 3,_,1,_=>exact aU4 w
 | 3,_,2,_=>exact aU3 w
 | 3,_,3,_=>exact aU2 w
 | 4,_,0,_=>exact aU1 w
 | 4,_,1,_=>exact aU0 w
 | 4,_,2,_=>exact aT9 w
 | 4,_,3,_=>exact aT8 w
 | t+5,h,_,_=>omega
 | _,_,k+4,h=>omega
theorem Mz (t k:Nat) (j:t<5) (h:k<4) (c:(jQ t k).2≠0):iP t (jQ t k).1=(jQ t k).2:=by
 have:∀(t:Fin 5) (k:Fin 4),(jQ t.val k.val).2≠0->iP t.val (jQ t.val k.val).1=(jQ t.val k.val).2:=by decide
 exact this ⟨t,j⟩ ⟨k,h⟩ c
theorem Cd:∀(l:List (bE×Nat)) (s:bE),(∀p∈l,p.2≠0->p.1≠s)->(∀p∈l,p.2≠0)->sE l s=0:=by
 intro l
 induction l with
 | nil=>intro s _ _;rfl
 | cons p r ih=>
  intro s h k
  obtain ⟨t,c⟩:=p
  rw[sE,if_neg (h (t,c) (by simp) (k (t,c) (by simp)))]
  exact ih s (fun p j=>h p (by simp[j])) (fun p j=>k p (by simp[j]))
theorem D4:∀(t:Fin 5) (p:bE×Nat),p∈signs.getD t.val []->p.2≠0:=by decide
theorem Kl:∀(t:Fin 5) (p:bE×Nat),p∈signs.getD t.val []->∃k:Fin 4,p=jQ t.val k.val:=by decide
theorem Ce (t:Nat) (c:t<5) (s:bE) (h:∀k,k<4->(jQ t k).2≠0->(jQ t k).1≠s):iP t s=0:=by
 refine Cd _ s (fun p j _=>?_) (D4 ⟨t,c⟩)
 obtain ⟨k,rfl⟩:=Kl ⟨t,c⟩ p j
 exact h k.val k.isLt (D4 ⟨t,c⟩ _ j)
theorem Kq (t:Nat) (c:t<5):∀j v,((betweenL.getD t []).flatMap oV)[j]?=some v->(betweenL.flatMap (·.flatMap oV))[t*8+j]?=some v:=by
 intro j v k
 have l:j<8:=by
  have:=(aO5.1 k).1
  have e:∀t:Fin 5,((betweenL.getD t.val []).flatMap oV).length=8:=by decide
  rw[e ⟨t,c⟩] at this;exact this
 rw[<-k]
 match t,c,j,l with
 | 0,_,0,_=>rfl
 | 0,_,1,_=>rfl
 | 0,_,2,_=>rfl
 | 0,_,3,_=>rfl
 | 0,_,4,_=>rfl
 | 0,_,5,_=>rfl
 | 0,_,6,_=>rfl
 | 0,_,7,_=>rfl
 | 1,_,0,_=>rfl
 | 1,_,1,_=>rfl
 | 1,_,2,_=>rfl
 | 1,_,3,_=>rfl
 | 1,_,4,_=>rfl
 | 1,_,5,_=>rfl
 | 1,_,6,_=>rfl
 | 1,_,7,_=>rfl
 | 2,_,0,_=>rfl
 | 2,_,1,_=>rfl
 | 2,_,2,_=>rfl
 | 2,_,3,_=>rfl
 | 2,_,4,_=>rfl
 | 2,_,5,_=>rfl
 | 2,_,6,_=>rfl
 | 2,_,7,_=>rfl
 | 3,_,0,_=>rfl
 | 3,_,1,_=>rfl
 | 3,_,2,_=>rfl
 | 3,_,3,_=>rfl
 | 3,_,4,_=>rfl
 | 3,_,5,_=>rfl
 | 3,_,6,_=>rfl
 | 3,_,7,_=>rfl
 | 4,_,0,_=>rfl
 | 4,_,1,_=>rfl
 | 4,_,2,_=>rfl
 | 4,_,3,_=>rfl
 | 4,_,4,_=>rfl
 | 4,_,5,_=>rfl
 | 4,_,6,_=>rfl
 | 4,_,7,_=>rfl
 | t+5,h,_,_=>omega
 | _,_,j+8,h=>omega
theorem Rp {w:World}(h:rD w) (t:Nat) (ht:t<5):(loadVar 329 ⟨6,t*8,none⟩).run Tryz.prog w=.ok (.agg (BV t)) w:=
 yT 329 8 w 6 (t*8) _ (by kernel_rfl) (by kernel_rfl) (by have e:∀t:Fin 5,((betweenL.getD t.val []).flatMap oV).length=8:=by decide
                                                          exact e ⟨t,ht⟩) (fun j v hv=>h.between _ v (Kq t ht j v hv))
theorem xA (s:ByteArray) (t:Nat) (n:t<5) (w:World) (Z:rD w):Calls Tryz.prog 250 #[.string s,.int .i64 t] w fun e w'=>e=.returned (.int .i64 (iP t (bs s):Nat))/\Below w.heap.size w w':=by
 have Y:=Rp Z t n
 have O:∀B:List Value,B=betweenL.flatMap (·.flatMap oV)->True:=fun _ _=>trivial
 clear Z O
 go_enter Tryz.func250,Tryz.ntmps250
 go_wp2_with (refine cM rfl 329 (.tmp 8) rfl ⟨6,t*8,none⟩ rfl (.agg (BV t)) Y ?_;clear Y)
 go_loopg [10] 4 (fun g i wr=>∃k:Nat,g=4-k/\k≤4/\i=.int .i64 k/\Hid (∀j,j<k->(jQ t j).2≠0->(jQ t j).1≠bs s)/\Below w.heap.size w wr)
 case atStart=>exact ⟨0,by omega,by omega,rfl,fun j hj=>absurd hj (by omega),Below.refl _ _⟩
 case round=>
  obtain ⟨k,rfl,hk,rfl,I,l⟩:=hrel
  have u:=l.size
  by_cases hlt:k<4
  ·obtain ⟨y,c,r,U⟩:∃(y:ByteArray) (c:Nat),y=⟨(jQ t k).1.toArray⟩/\c=(jQ t k).2:=⟨_,_,rfl,rfl⟩
   have aa:∀w,(Instr.index 329 (.agg (BV t)) (.int .i64 k)).run Tryz.prog w=.ok (.agg #[.string y,.int .i64 c]) w:=by
    intro w;rw[r,U];exact Mj t k n hlt w
   have D:Hid (bs y=(jQ t k).1):=by
    show _=_;rw[r]
   have X:Hid (c=(jQ t k).2):=U
   clear r U
   by_cases hc0:c=0
   ·subst hc0
    have H:Hid (∀j,j<k+1->(jQ t j).2≠0->(jQ t j).1≠bs s):=by
     intro j J
     by_cases e:j=k
     ·subst e;intro h;exact absurd X.out.symm h
     ·exact I.out j (by omega)
    go_wp2
    go_roundg (4-(k+1))
    case measure=>omega
    case rel=>exact ⟨k+1,rfl,by omega,by go_num,H,l.alloc u _⟩
   ·have Q:¬(c:Int)=0:=by omega
    have ab:((c:Int) != 0)=true:=by simpa using Q
    by_cases heq:bs y=bs s
    ·have h1:=sS y s heq
     have H:Hid (iP t (bs s)=c):=by rw[Hid,<-heq,D.out,X.out];exact Mz t k n hlt (by rw[<-X.out];exact hc0)
     clear heq
     go_wp2
     go_ret
     exact ⟨fN (by rw[H.out]),l.alloc u _⟩
    ·have h1:=yC y s heq
     have H:Hid (∀j,j<k+1->(jQ t j).2≠0->(jQ t j).1≠bs s):=by
      intro j J
      by_cases e:j=k
      ·subst e;intro _;rw[<-D.out];exact heq
      ·exact I.out j (by omega)
     clear heq
     go_wp2
     go_roundg (4-(k+1))
     case measure=>omega
     case rel=>exact ⟨k+1,rfl,by omega,by go_num,H,l.alloc u _⟩
  ·have H:Hid (iP t (bs s)=0):=Ce t n _ (fun j hj=>I.out j (by omega))
   go_wp2
   go_ret
   exact ⟨fN (by rw[H.out];rfl),l⟩
end Go.Proofs.YthieaobjdpfcoaaGreatDoor
