import Derived.Test.YthieaobjdpfcoaaGreatDoorVRead
import Derived.StillTailTactics
set_option maxRecDepth 100000
set_option maxHeartbeats 2000000
namespace Go.Proofs.YthieaobjdpfcoaaGreatDoor
open Go.Proofs.Tryz (prog)
section
open Go.RowKit Px
theorem Oz (a b:ByteArray):(a.toList==b.toList)=decide (bs a=bs b):=by
 rw[ByteArray.toList_eq,ByteArray.toList_eq,Bool.eq_iff_iff]
 simp only[beq_iff_eq,decide_eq_true_eq]
theorem sS (a b:ByteArray) (h:bs a=bs b):(a.toList==b.toList)=true:=by rw[Oz];exact decide_eq_true h
theorem yC (a b:ByteArray) (h:bs a≠bs b):(a.toList==b.toList)=false:=by rw[Oz];exact decide_eq_false h
def qD (w:World) (b:Nat) (cs:List Value):Prop:=∀i v,cs[i]?=some v->w.cell? ⟨b,i,none⟩=some v
def kindsL:List bE:=[[],Sa,Ij,aK6]
def leadsL:List bE:=[G0,Sc,Zp]
def oV (p:bE×Nat):List Value:=[sv p.1,.int .i64 p.2]
def aheadL:List (bE×Nat):=[(vE,4),(aK7,5)]
def aB7 (l:List (bE×Nat)):List (bE×Nat):=(l++[([],0),([],0),([],0)]).take 4
def betweenL:List (List (bE×Nat)):=signs.map aB7
structure rD (w:World):Prop where
 words:qD w 2 (words.map sv)
 kinds:qD w 1 (kindsL.map sv)
 leads:qD w 3 (leadsL.map sv)
 ahead:qD w 7 (aheadL.flatMap oV)
 between:qD w 6 (betweenL.flatMap (·.flatMap oV))
theorem qD.keep {w w':World}{b:Nat}{cs:List Value}(h:qD w b cs) (hb:w'.heap[b]?=w.heap[b]?):qD w' b cs:=fun i v hv=>by
 rw[aY6 (w:=w) (a:=⟨b,i,none⟩) hb];exact h i v hv
theorem rD.keep {w w':World}(h:rD w) (hb:∀b,b<11->w'.heap[b]?=w.heap[b]?):rD w':=
 ⟨h.words.keep (hb 2 (by omega)),h.kinds.keep (hb 1 (by omega)),h.leads.keep (hb 3 (by omega)),h.ahead.keep (hb 7 (by omega)),h.between.keep (hb 6 (by omega))⟩
theorem yT (T n:Nat) (w:World) (b o:Nat) (cs:List Value) (k:(isAgg T).run prog w=.ok true w) (hsz:(sizeOf T).run prog w=.ok n w) (s:cs.length=n)
    (h:∀j v,cs[j]?=some v->w.cell? ⟨b,o+j,none⟩=some v):(loadVar T ⟨b,o,none⟩).run prog w=.ok (.agg cs.toArray) w:=by
 have l:=run_loadCells_list (P:=prog) w ⟨b,o,none⟩ cs (fun j v r=>by
  have c:(⟨b,o,none⟩:Addr).add j=⟨b,o+j,none⟩:=by unfold Addr.add;split<;>simp_all
  rw[c];exact h j v r)
 rw[s] at l
 unfold loadVar
 rw[Sem.run_bind,k]
 simp only[Result.andThen,if_true,Sem.run_bind,hsz,l]
 rfl
theorem tH (T n:Nat) (w:World) (b:Nat) (cs:List Value) (hagg:(isAgg T).run prog w=.ok true w) (hsz:(sizeOf T).run prog w=.ok n w) (hn:cs.length=n) (h:qD w b cs):(loadVar T ⟨b,0,none⟩).run prog w=.ok (.agg cs.toArray) w:=
 yT T n w b 0 cs hagg hsz hn (fun j v hv=>by rw[aX3];exact h j v hv)
def WV:Array Value:=(words.map sv).toArray
theorem wx0 (w:World):(Instr.index 215 (.agg WV) (.int .i64 0)).run prog w=.ok (sv (words.getD 0 [])) w:=by kernel_rfl
theorem wx1 (w:World):(Instr.index 215 (.agg WV) (.int .i64 1)).run prog w=.ok (sv (words.getD 1 [])) w:=by kernel_rfl
theorem Q8 (w:World):(Instr.index 215 (.agg WV) (.int .i64 2)).run prog w=.ok (sv (words.getD 2 [])) w:=by kernel_rfl
theorem wx3 (w:World):(Instr.index 215 (.agg WV) (.int .i64 3)).run prog w=.ok (sv (words.getD 3 [])) w:=by kernel_rfl
theorem wx4 (w:World):(Instr.index 215 (.agg WV) (.int .i64 4)).run prog w=.ok (sv (words.getD 4 [])) w:=by kernel_rfl
theorem wx5 (w:World):(Instr.index 215 (.agg WV) (.int .i64 5)).run prog w=.ok (sv (words.getD 5 [])) w:=by kernel_rfl
theorem wx6 (w:World):(Instr.index 215 (.agg WV) (.int .i64 6)).run prog w=.ok (sv (words.getD 6 [])) w:=by kernel_rfl
theorem wx7 (w:World):(Instr.index 215 (.agg WV) (.int .i64 7)).run prog w=.ok (sv (words.getD 7 [])) w:=by kernel_rfl
theorem wx8 (w:World):(Instr.index 215 (.agg WV) (.int .i64 8)).run prog w=.ok (sv (words.getD 8 [])) w:=by kernel_rfl
theorem wx9 (w:World):(Instr.index 215 (.agg WV) (.int .i64 9)).run prog w=.ok (sv (words.getD 9 [])) w:=by kernel_rfl
theorem aQ7 (w:World):(Instr.index 215 (.agg WV) (.int .i64 10)).run prog w=.ok (sv (words.getD 10 [])) w:=by kernel_rfl
theorem aQ6 (w:World):(Instr.index 215 (.agg WV) (.int .i64 11)).run prog w=.ok (sv (words.getD 11 [])) w:=by kernel_rfl
theorem aQ5 (w:World):(Instr.index 215 (.agg WV) (.int .i64 12)).run prog w=.ok (sv (words.getD 12 [])) w:=by kernel_rfl
theorem aQ4 (w:World):(Instr.index 215 (.agg WV) (.int .i64 13)).run prog w=.ok (sv (words.getD 13 [])) w:=by kernel_rfl
theorem aQ3 (w:World):(Instr.index 215 (.agg WV) (.int .i64 14)).run prog w=.ok (sv (words.getD 14 [])) w:=by kernel_rfl
theorem aQ2 (w:World):(Instr.index 215 (.agg WV) (.int .i64 15)).run prog w=.ok (sv (words.getD 15 [])) w:=by kernel_rfl
theorem aQ1 (w:World):(Instr.index 215 (.agg WV) (.int .i64 16)).run prog w=.ok (sv (words.getD 16 [])) w:=by kernel_rfl
theorem aQ0 (w:World):(Instr.index 215 (.agg WV) (.int .i64 17)).run prog w=.ok (sv (words.getD 17 [])) w:=by kernel_rfl
theorem aP9 (w:World):(Instr.index 215 (.agg WV) (.int .i64 18)).run prog w=.ok (sv (words.getD 18 [])) w:=by kernel_rfl
theorem aP8 (w:World):(Instr.index 215 (.agg WV) (.int .i64 19)).run prog w=.ok (sv (words.getD 19 [])) w:=by kernel_rfl
theorem aP7 (w:World):(Instr.index 215 (.agg WV) (.int .i64 20)).run prog w=.ok (sv (words.getD 20 [])) w:=by kernel_rfl
theorem Bb (k:Nat) (c:k<21) (w:World):(Instr.index 215 (.agg WV) (.int .i64 k)).run prog w=.ok (sv (words.getD k [])) w:=by
 match k,c with
 | 0,_=>exact wx0 w
 | 1,_=>exact wx1 w
 | 2,_=>exact Q8 w
 | 3,_=>exact wx3 w
 | 4,_=>exact wx4 w
 | 5,_=>exact wx5 w
 | 6,_=>exact wx6 w
 | 7,_=>exact wx7 w
 | 8,_=>exact wx8 w
 | 9,_=>exact wx9 w
 | 10,_=>exact aQ7 w
 | 11,_=>exact aQ6 w
 | 12,_=>exact aQ5 w
 | 13,_=>exact aQ4 w
 | 14,_=>exact aQ3 w
 | 15,_=>exact aQ2 w
 | 16,_=>exact aQ1 w
 | 17,_=>exact aQ0 w
 | 18,_=>exact aP9 w
 | 19,_=>exact aP8 w
 | 20,_=>exact aP7 w
 | k+21,h=>omega
theorem aE0 (k:Nat) (h:k<21):kw (words.getD k [])=true:=by
 have:∀k:Fin 21,kw (words.getD k.val [])=true:=by decide
 exact this ⟨k,h⟩
theorem aK5 (s:bE) (h:∀j,j<21->words.getD j []≠s):kw s=false:=by
 rw[Bool.eq_false_iff]
 intro c
 simp only[kw,List.any_eq_true,beq_iff_eq] at c
 obtain ⟨x,hx,rfl⟩:=c
 obtain ⟨j,k,rfl⟩:=List.mem_iff_getElem.1 hx
 exact h j k (by rw[iO,aN4 k];rfl)
theorem wQ (s:ByteArray) (w:World) (u:rD w):Calls prog 148 #[.string s] w fun e w'=>e=.returned (.bool (kw (bs s)))/\w'=w:=by
 have n:(loadVar 215 ⟨2,0,none⟩).run prog w=.ok (.agg WV) w:=tH 215 21 w 2 _ (by kernel_rfl) (by kernel_rfl) (by decide) u.words
 clear u
 go_enter Tryz.func148,Tryz.ntmps148
 go_wp2_with (refine cM rfl 215 (.global 2) rfl ⟨2,0,none⟩ rfl (.agg WV) n ?_;clear n)
 go_loop [6] (fun i=>∃k:Nat,k≤21/\i=.int .i64 k/\Hid (∀j,j<k->words.getD j []≠bs s)) (fun i=>21-(intOf i).toNat)
 case atStart=>exact ⟨0,by omega,rfl,fun j y=>absurd y (by omega)⟩
 case round=>
  obtain ⟨k,O,rfl,r⟩:=hrel
  by_cases hlt:k<21
  ·obtain ⟨h,c⟩:∃h:ByteArray,h=⟨(words.getD k []).toArray⟩:=⟨_,rfl⟩
   have D:∀w,(Instr.index 215 (.agg WV) (.int .i64 k)).run prog w=.ok (.string h) w:=by
    intro w;rw[c];exact Bb k hlt w
   have l:Hid (bs h=words.getD k []):=by
    show _=_;rw[c]
   clear c
   by_cases heq:bs h=bs s
   ·have J:=sS h s heq
    have H:Hid (kw (bs s)=true):=by rw[Hid,<-heq,l.out];exact aE0 k hlt
    clear heq
    go_wp2
    go_ret
    exact ⟨mX H.out.symm,rfl⟩
   ·have J:=yC h s heq
    have H:Hid (∀j,j<k+1->words.getD j []≠bs s):=by
     intro j I
     by_cases e:j=k
     ·subst e;rw[<-l.out];exact heq
     ·exact r.out j (by omega)
    clear heq
    go_wp2
    go_round
    case rel=>exact ⟨k+1,by omega,by go_num,H⟩
    case measure=>simp[intOf];omega
  ·have H:Hid (kw (bs s)=false):=aK5 _ (fun j y=>r.out j (by omega))
   go_wp2
   go_ret
   exact ⟨mX H.out.symm,rfl⟩
def KV:Array Value:=(kindsL.map sv).toArray
theorem kx0 (w:World):(Instr.index 217 (.agg KV) (.int .i64 0)).run prog w=.ok (sv (kindsL.getD 0 [])) w:=by kernel_rfl
theorem kx1 (w:World):(Instr.index 217 (.agg KV) (.int .i64 1)).run prog w=.ok (sv (kindsL.getD 1 [])) w:=by kernel_rfl
theorem kx2 (w:World):(Instr.index 217 (.agg KV) (.int .i64 2)).run prog w=.ok (sv (kindsL.getD 2 [])) w:=by kernel_rfl
theorem X1 (w:World):(Instr.index 217 (.agg KV) (.int .i64 3)).run prog w=.ok (sv (kindsL.getD 3 [])) w:=by kernel_rfl
theorem Bf (k:Nat) (c:k<4) (w:World):(Instr.index 217 (.agg KV) (.int .i64 k)).run prog w=.ok (sv (kindsL.getD k [])) w:=by
 match k,c with
 | 0,_=>exact kx0 w
 | 1,_=>exact kx1 w
 | 2,_=>exact kx2 w
 | 3,_=>exact X1 w
 | k+4,h=>omega
theorem Ly (k:Nat) (h:k<4):dY (kindsL.getD k [])=k:=by
 have:∀k:Fin 4,dY (kindsL.getD k.val [])=k.val:=by decide
 exact this ⟨k,h⟩
theorem Ay (s:bE) (h:∀j,j<4->kindsL.getD j []≠s):dY s=0:=by
 unfold dY
 rw[if_neg (fun e=>h 1 (by omega) e.symm),if_neg (fun e=>h 2 (by omega) e.symm),if_neg (fun e=>h 3 (by omega) e.symm)]
theorem Fi (s:ByteArray) (w:World) (u:rD w):Calls prog 105 #[.string s] w fun e w'=>e=.returned (.int .i64 (dY (bs s):Nat))/\w'=w:=by
 have n:(loadVar 217 ⟨1,0,none⟩).run prog w=.ok (.agg KV) w:=tH 217 4 w 1 _ (by kernel_rfl) (by kernel_rfl) (by decide) u.kinds
 clear u
 go_enter Tryz.func105,Tryz.ntmps105
 go_wp2_with (refine cM rfl 217 (.global 1) rfl ⟨1,0,none⟩ rfl (.agg KV) n ?_;clear n)
 go_loop [6] (fun i=>∃k:Nat,k≤4/\i=.int .i64 k/\Hid (∀j,j<k->kindsL.getD j []≠bs s)) (fun i=>4-(intOf i).toNat)
 case atStart=>exact ⟨0,by omega,rfl,fun j y=>absurd y (by omega)⟩
 case round=>
  obtain ⟨k,O,rfl,r⟩:=hrel
  by_cases hlt:k<4
  ·obtain ⟨h,c⟩:∃h:ByteArray,h=⟨(kindsL.getD k []).toArray⟩:=⟨_,rfl⟩
   have D:∀w,(Instr.index 217 (.agg KV) (.int .i64 k)).run prog w=.ok (.string h) w:=by
    intro w;rw[c];exact Bf k hlt w
   have l:Hid (bs h=kindsL.getD k []):=by
    show _=_;rw[c]
   clear c
   by_cases heq:bs h=bs s
   ·have J:=sS h s heq
    have H:Hid (dY (bs s)=k):=by rw[Hid,<-heq,l.out];exact Ly k hlt
    clear heq
    go_wp2
    go_ret
    exact ⟨fN (by rw[H.out]),rfl⟩
   ·have J:=yC h s heq
    have H:Hid (∀j,j<k+1->kindsL.getD j []≠bs s):=by
     intro j I
     by_cases e:j=k
     ·subst e;rw[<-l.out];exact heq
     ·exact r.out j (by omega)
    clear heq
    go_wp2
    go_round
    case rel=>exact ⟨k+1,by omega,by go_num,H⟩
    case measure=>simp[intOf];omega
  ·have H:Hid (dY (bs s)=0):=Ay _ (fun j y=>r.out j (by omega))
   go_wp2
   go_ret
   exact ⟨fN (by rw[H.out];rfl),rfl⟩
def LV:Array Value:=(leadsL.map sv).toArray
theorem lx0 (w:World):(Instr.index 316 (.agg LV) (.int .i64 0)).run prog w=.ok (sv (leadsL.getD 0 [])) w:=by kernel_rfl
theorem lx1 (w:World):(Instr.index 316 (.agg LV) (.int .i64 1)).run prog w=.ok (sv (leadsL.getD 1 [])) w:=by kernel_rfl
theorem lx2 (w:World):(Instr.index 316 (.agg LV) (.int .i64 2)).run prog w=.ok (sv (leadsL.getD 2 [])) w:=by kernel_rfl
theorem Be (k:Nat) (c:k<3) (w:World):(Instr.index 316 (.agg LV) (.int .i64 k)).run prog w=.ok (sv (leadsL.getD k [])) w:=by
 match k,c with
 | 0,_=>exact lx0 w
 | 1,_=>exact lx1 w
 | 2,_=>exact lx2 w
 | k+3,h=>omega
theorem Lu (k:Nat) (h:k<3):cZ (leadsL.getD k [])=some k:=by
 have:∀k:Fin 3,cZ (leadsL.getD k.val [])=some k.val:=by decide
 exact this ⟨k,h⟩
theorem Av (s:bE) (h:∀j,j<3->leadsL.getD j []≠s):cZ s=none:=by
 unfold cZ
 rw[if_neg (fun e=>h 0 (by omega) e.symm),if_neg (fun e=>h 1 (by omega) e.symm),if_neg (fun e=>h 2 (by omega) e.symm)]
def rL:Option Nat->Value
 | some k=>.tuple #[.int .i64 k,.bool true]
 | none=>.tuple #[.int .i64 0,.bool false]
theorem Ff (s:ByteArray) (w:World) (u:rD w):Calls prog 223 #[.string s] w fun e w'=>e=.returned (rL (cZ (bs s)))/\w'=w:=by
 have n:(loadVar 316 ⟨3,0,none⟩).run prog w=.ok (.agg LV) w:=tH 316 3 w 3 _ (by kernel_rfl) (by kernel_rfl) (by decide) u.leads
 clear u
 go_enter Tryz.func223,Tryz.ntmps223
 go_wp2_with (refine cM rfl 316 (.global 3) rfl ⟨3,0,none⟩ rfl (.agg LV) n ?_;clear n)
 go_loop [7] (fun i=>∃k:Nat,k≤3/\i=.int .i64 k/\Hid (∀j,j<k->leadsL.getD j []≠bs s)) (fun i=>3-(intOf i).toNat)
 case atStart=>exact ⟨0,by omega,rfl,fun j y=>absurd y (by omega)⟩
 case round=>
  obtain ⟨k,O,rfl,r⟩:=hrel
  by_cases hlt:k<3
  ·obtain ⟨h,c⟩:∃h:ByteArray,h=⟨(leadsL.getD k []).toArray⟩:=⟨_,rfl⟩
   have D:∀w,(Instr.index 316 (.agg LV) (.int .i64 k)).run prog w=.ok (.string h) w:=by
    intro w;rw[c];exact Be k hlt w
   have l:Hid (bs h=leadsL.getD k []):=by
    show _=_;rw[c]
   clear c
   by_cases heq:bs h=bs s
   ·have J:=sS h s heq
    have H:Hid (cZ (bs s)=some k):=by rw[Hid,<-heq,l.out];exact Lu k hlt
    clear heq
    go_wp2
    go_ret2
    exact ⟨by rw[H.out];rfl,rfl⟩
   ·have J:=yC h s heq
    have H:Hid (∀j,j<k+1->leadsL.getD j []≠bs s):=by
     intro j I
     by_cases e:j=k
     ·subst e;rw[<-l.out];exact heq
     ·exact r.out j (by omega)
    clear heq
    go_wp2
    go_round
    case rel=>exact ⟨k+1,by omega,by go_num,H⟩
    case measure=>simp[intOf];omega
  ·have H:Hid (cZ (bs s)=none):=Av _ (fun j y=>r.out j (by omega))
   go_wp2
   go_ret2
   exact ⟨by rw[H.out];rfl,rfl⟩
def AV:Array Value:=(aheadL.flatMap oV).toArray
theorem ax0 (w:World):(Instr.index 332 (.agg AV) (.int .i64 0)).run prog w=.ok (.agg (oV (aheadL.getD 0 ([],0))).toArray) w:=by kernel_rfl
theorem ax1 (w:World):(Instr.index 332 (.agg AV) (.int .i64 1)).run prog w=.ok (.agg (oV (aheadL.getD 1 ([],0))).toArray) w:=by kernel_rfl
theorem Bg (k:Nat) (c:k<2) (w:World):(Instr.index 332 (.agg AV) (.int .i64 k)).run prog w=.ok (.agg (oV (aheadL.getD k ([],0))).toArray) w:=by
 match k,c with
 | 0,_=>exact ax0 w
 | 1,_=>exact ax1 w
 | k+2,h=>omega
theorem U9 (k:Nat) (h:k<2):bP (aheadL.getD k ([],0)).1=(aheadL.getD k ([],0)).2:=by
 have:∀k:Fin 2,bP (aheadL.getD k.val ([],0)).1=(aheadL.getD k.val ([],0)).2:=by decide
 exact this ⟨k,h⟩
theorem zF (s:bE) (h:∀j,j<2->(aheadL.getD j ([],0)).1≠s):bP s=0:=by
 unfold bP
 rw[if_neg (fun e=>h 0 (by omega) e.symm),if_neg (fun e=>h 1 (by omega) e.symm)]
theorem A9 (s:ByteArray) (w:World) (J:rD w):Calls prog 253 #[.string s] w fun e w'=>e=.returned (.int .i64 (bP (bs s):Nat))/\Below w.heap.size w w':=by
 have D:(loadVar 332 ⟨7,0,none⟩).run prog w=.ok (.agg AV) w:=tH 332 4 w 7 _ (by kernel_rfl) (by kernel_rfl) (by decide) J.ahead
 clear J
 go_enter Tryz.func253,Tryz.ntmps253
 go_wp2_with (refine cM rfl 332 (.global 7) rfl ⟨7,0,none⟩ rfl (.agg AV) D ?_;clear D)
 go_loopg [6] 2 (fun g i wr=>∃k:Nat,g=2-k/\k≤2/\i=.int .i64 k/\Hid (∀j,j<k->(aheadL.getD j ([],0)).1≠bs s)/\Below w.heap.size w wr)
 case atStart=>exact ⟨0,by omega,by omega,rfl,fun j O=>absurd O (by omega),Below.refl _ _⟩
 case round=>
  obtain ⟨k,rfl,Z,rfl,I,h⟩:=hrel
  have u:=h.size
  by_cases hlt:k<2
  ·obtain ⟨n,c,l,y⟩:∃(n:ByteArray) (c:Nat),n=⟨(aheadL.getD k ([],0)).1.toArray⟩/\c=(aheadL.getD k ([],0)).2:=⟨_,_,rfl,rfl⟩
   have Q:∀w,(Instr.index 332 (.agg AV) (.int .i64 k)).run prog w=.ok (.agg #[.string n,.int .i64 c]) w:=by
    intro w;rw[l,y];exact Bg k hlt w
   have r:Hid (bs n=(aheadL.getD k ([],0)).1):=by
    show _=_;rw[l]
   have Y:Hid (c=(aheadL.getD k ([],0)).2):=y
   clear l y
   by_cases heq:bs n=bs s
   ·have X:=sS n s heq
    have H:Hid (bP (bs s)=c):=by rw[Hid,<-heq,r.out,Y.out];exact U9 k hlt
    clear heq
    go_wp2
    go_ret
    exact ⟨fN (by rw[H.out]),h.alloc u _⟩
   ·have X:=yC n s heq
    have H:Hid (∀j,j<k+1->(aheadL.getD j ([],0)).1≠bs s):=by
     intro j U
     by_cases e:j=k
     ·subst e;rw[<-r.out];exact heq
     ·exact I.out j (by omega)
    clear heq
    go_wp2
    go_roundg (2-(k+1))
    case measure=>omega
    case rel=>exact ⟨k+1,rfl,by omega,by go_num,H,h.alloc u _⟩
  ·have H:Hid (bP (bs s)=0):=zF _ (fun j O=>I.out j (by omega))
   go_wp2
   go_ret
   exact ⟨fN (by rw[H.out];rfl),h⟩
def BV (t:Nat):Array Value:=((betweenL.getD t []).flatMap oV).toArray
def jQ (t k:Nat):bE×Nat:=(betweenL.getD t []).getD k ([],0)
theorem aV7 (w:World):(Instr.index 329 (.agg (BV 0)) (.int .i64 0)).run prog w=.ok (.agg #[sv (jQ 0 0).1,.int .i64 (jQ 0 0).2]) w:=by kernel_rfl
theorem aV6 (w:World):(Instr.index 329 (.agg (BV 0)) (.int .i64 1)).run prog w=.ok (.agg #[sv (jQ 0 1).1,.int .i64 (jQ 0 1).2]) w:=by kernel_rfl
theorem aV5 (w:World):(Instr.index 329 (.agg (BV 0)) (.int .i64 2)).run prog w=.ok (.agg #[sv (jQ 0 2).1,.int .i64 (jQ 0 2).2]) w:=by kernel_rfl
theorem aV4 (w:World):(Instr.index 329 (.agg (BV 0)) (.int .i64 3)).run prog w=.ok (.agg #[sv (jQ 0 3).1,.int .i64 (jQ 0 3).2]) w:=by kernel_rfl
theorem aV3 (w:World):(Instr.index 329 (.agg (BV 1)) (.int .i64 0)).run prog w=.ok (.agg #[sv (jQ 1 0).1,.int .i64 (jQ 1 0).2]) w:=by kernel_rfl
theorem aV2 (w:World):(Instr.index 329 (.agg (BV 1)) (.int .i64 1)).run prog w=.ok (.agg #[sv (jQ 1 1).1,.int .i64 (jQ 1 1).2]) w:=by kernel_rfl
theorem aV1 (w:World):(Instr.index 329 (.agg (BV 1)) (.int .i64 2)).run prog w=.ok (.agg #[sv (jQ 1 2).1,.int .i64 (jQ 1 2).2]) w:=by kernel_rfl
theorem aV0 (w:World):(Instr.index 329 (.agg (BV 1)) (.int .i64 3)).run prog w=.ok (.agg #[sv (jQ 1 3).1,.int .i64 (jQ 1 3).2]) w:=by kernel_rfl
theorem aU9 (w:World):(Instr.index 329 (.agg (BV 2)) (.int .i64 0)).run prog w=.ok (.agg #[sv (jQ 2 0).1,.int .i64 (jQ 2 0).2]) w:=by kernel_rfl
theorem aU8 (w:World):(Instr.index 329 (.agg (BV 2)) (.int .i64 1)).run prog w=.ok (.agg #[sv (jQ 2 1).1,.int .i64 (jQ 2 1).2]) w:=by kernel_rfl
theorem aU7 (w:World):(Instr.index 329 (.agg (BV 2)) (.int .i64 2)).run prog w=.ok (.agg #[sv (jQ 2 2).1,.int .i64 (jQ 2 2).2]) w:=by kernel_rfl
theorem aU6 (w:World):(Instr.index 329 (.agg (BV 2)) (.int .i64 3)).run prog w=.ok (.agg #[sv (jQ 2 3).1,.int .i64 (jQ 2 3).2]) w:=by kernel_rfl
theorem aU5 (w:World):(Instr.index 329 (.agg (BV 3)) (.int .i64 0)).run prog w=.ok (.agg #[sv (jQ 3 0).1,.int .i64 (jQ 3 0).2]) w:=by kernel_rfl
theorem aU4 (w:World):(Instr.index 329 (.agg (BV 3)) (.int .i64 1)).run prog w=.ok (.agg #[sv (jQ 3 1).1,.int .i64 (jQ 3 1).2]) w:=by kernel_rfl
theorem aU3 (w:World):(Instr.index 329 (.agg (BV 3)) (.int .i64 2)).run prog w=.ok (.agg #[sv (jQ 3 2).1,.int .i64 (jQ 3 2).2]) w:=by kernel_rfl
theorem aU2 (w:World):(Instr.index 329 (.agg (BV 3)) (.int .i64 3)).run prog w=.ok (.agg #[sv (jQ 3 3).1,.int .i64 (jQ 3 3).2]) w:=by kernel_rfl
theorem aU1 (w:World):(Instr.index 329 (.agg (BV 4)) (.int .i64 0)).run prog w=.ok (.agg #[sv (jQ 4 0).1,.int .i64 (jQ 4 0).2]) w:=by kernel_rfl
theorem aU0 (w:World):(Instr.index 329 (.agg (BV 4)) (.int .i64 1)).run prog w=.ok (.agg #[sv (jQ 4 1).1,.int .i64 (jQ 4 1).2]) w:=by kernel_rfl
theorem aT9 (w:World):(Instr.index 329 (.agg (BV 4)) (.int .i64 2)).run prog w=.ok (.agg #[sv (jQ 4 2).1,.int .i64 (jQ 4 2).2]) w:=by kernel_rfl
theorem aT8 (w:World):(Instr.index 329 (.agg (BV 4)) (.int .i64 3)).run prog w=.ok (.agg #[sv (jQ 4 3).1,.int .i64 (jQ 4 3).2]) w:=by kernel_rfl
theorem Mj (t k:Nat) (j:t<5) (c:k<4) (w:World):(Instr.index 329 (.agg (BV t)) (.int .i64 k)).run prog w=.ok (.agg #[sv (jQ t k).1,.int .i64 (jQ t k).2]) w:=by
 match t,j,k,c with
 | 0,_,0,_=>exact aV7 w
 | 0,_,1,_=>exact aV6 w
 | 0,_,2,_=>exact aV5 w
 | 0,_,3,_=>exact aV4 w
 | 1,_,0,_=>exact aV3 w
 | 1,_,1,_=>exact aV2 w
 | 1,_,2,_=>exact aV1 w
 | 1,_,3,_=>exact aV0 w
 | 2,_,0,_=>exact aU9 w
 | 2,_,1,_=>exact aU8 w
 | 2,_,2,_=>exact aU7 w
 | 2,_,3,_=>exact aU6 w
 | 3,_,0,_=>exact aU5 w
 | 3,_,1,_=>exact aU4 w
 | 3,_,2,_=>exact aU3 w
 | 3,_,3,_=>exact aU2 w
 | 4,_,0,_=>exact aU1 w
 | 4,_,1,_=>exact aU0 w
 | 4,_,2,_=>exact aT9 w
 | 4,_,3,_=>exact aT8 w
 | t+5,h,_,_=>omega
 | _,_,k+4,h=>omega
theorem Mz (t k:Nat) (j:t<5) (h:k<4) (c:(jQ t k).2≠0):iP t (jQ t k).1=(jQ t k).2:=by
 have:∀(t:Fin 5) (k:Fin 4),(jQ t.val k.val).2≠0->iP t.val (jQ t.val k.val).1=(jQ t.val k.val).2:=by decide
 exact this ⟨t,j⟩ ⟨k,h⟩ c
theorem Cd:∀(l:List (bE×Nat)) (s:bE),(∀p∈l,p.2≠0->p.1≠s)->(∀p∈l,p.2≠0)->sE l s=0:=by
 intro l
 induction l with
 | nil=>intro s _ _;rfl
 | cons p r ih=>
  intro s h k
  obtain ⟨t,c⟩:=p
  rw[sE,if_neg (h (t,c) (by simp) (k (t,c) (by simp)))]
  exact ih s (fun p j=>h p (by simp[j])) (fun p j=>k p (by simp[j]))
theorem D4:∀(t:Fin 5) (p:bE×Nat),p∈signs.getD t.val []->p.2≠0:=by decide
theorem Kl:∀(t:Fin 5) (p:bE×Nat),p∈signs.getD t.val []->∃k:Fin 4,p=jQ t.val k.val:=by decide
theorem Ce (t:Nat) (c:t<5) (s:bE) (h:∀k,k<4->(jQ t k).2≠0->(jQ t k).1≠s):iP t s=0:=by
 refine Cd _ s (fun p j _=>?_) (D4 ⟨t,c⟩)
 obtain ⟨k,rfl⟩:=Kl ⟨t,c⟩ p j
 exact h k.val k.isLt (D4 ⟨t,c⟩ _ j)
theorem Kq (t:Nat) (c:t<5):∀j v,((betweenL.getD t []).flatMap oV)[j]?=some v->(betweenL.flatMap (·.flatMap oV))[t*8+j]?=some v:=by
 intro j v k
 have l:j<8:=by
  have:=(aO7.1 k).1
  have e:∀t:Fin 5,((betweenL.getD t.val []).flatMap oV).length=8:=by decide
  rw[e ⟨t,c⟩] at this;exact this
 rw[<-k]
 match t,c,j,l with
 | 0,_,0,_=>rfl
 | 0,_,1,_=>rfl
 | 0,_,2,_=>rfl
 | 0,_,3,_=>rfl
 | 0,_,4,_=>rfl
 | 0,_,5,_=>rfl
 | 0,_,6,_=>rfl
 | 0,_,7,_=>rfl
 | 1,_,0,_=>rfl
 | 1,_,1,_=>rfl
 | 1,_,2,_=>rfl
 | 1,_,3,_=>rfl
 | 1,_,4,_=>rfl
 | 1,_,5,_=>rfl
 | 1,_,6,_=>rfl
 | 1,_,7,_=>rfl
 | 2,_,0,_=>rfl
 | 2,_,1,_=>rfl
 | 2,_,2,_=>rfl
 | 2,_,3,_=>rfl
 | 2,_,4,_=>rfl
 | 2,_,5,_=>rfl
 | 2,_,6,_=>rfl
 | 2,_,7,_=>rfl
 | 3,_,0,_=>rfl
 | 3,_,1,_=>rfl
 | 3,_,2,_=>rfl
 | 3,_,3,_=>rfl
 | 3,_,4,_=>rfl
 | 3,_,5,_=>rfl
 | 3,_,6,_=>rfl
 | 3,_,7,_=>rfl
 | 4,_,0,_=>rfl
 | 4,_,1,_=>rfl
 | 4,_,2,_=>rfl
 | 4,_,3,_=>rfl
 | 4,_,4,_=>rfl
 | 4,_,5,_=>rfl
 | 4,_,6,_=>rfl
 | 4,_,7,_=>rfl
 | t+5,h,_,_=>omega
 | _,_,j+8,h=>omega
theorem Rp {w:World}(h:rD w) (t:Nat) (ht:t<5):(loadVar 329 ⟨6,t*8,none⟩).run prog w=.ok (.agg (BV t)) w:=
 yT 329 8 w 6 (t*8) _ (by kernel_rfl) (by kernel_rfl) (by have e:∀t:Fin 5,((betweenL.getD t.val []).flatMap oV).length=8:=by decide
                                                          exact e ⟨t,ht⟩) (fun j v hv=>h.between _ v (Kq t ht j v hv))
theorem xA (s:ByteArray) (t:Nat) (n:t<5) (w:World) (Z:rD w):Calls prog 250 #[.string s,.int .i64 t] w fun e w'=>e=.returned (.int .i64 (iP t (bs s):Nat))/\Below w.heap.size w w':=by
 have Y:=Rp Z t n
 have O:∀B:List Value,B=betweenL.flatMap (·.flatMap oV)->True:=fun _ _=>trivial
 clear Z O
 go_enter Tryz.func250,Tryz.ntmps250
 go_wp2_with (refine cM rfl 329 (.tmp 8) rfl ⟨6,t*8,none⟩ rfl (.agg (BV t)) Y ?_;clear Y)
 go_loopg [10] 4 (fun g i wr=>∃k:Nat,g=4-k/\k≤4/\i=.int .i64 k/\Hid (∀j,j<k->(jQ t j).2≠0->(jQ t j).1≠bs s)/\Below w.heap.size w wr)
 case atStart=>exact ⟨0,by omega,by omega,rfl,fun j hj=>absurd hj (by omega),Below.refl _ _⟩
 case round=>
  obtain ⟨k,rfl,hk,rfl,I,l⟩:=hrel
  have u:=l.size
  by_cases hlt:k<4
  ·obtain ⟨y,c,r,U⟩:∃(y:ByteArray) (c:Nat),y=⟨(jQ t k).1.toArray⟩/\c=(jQ t k).2:=⟨_,_,rfl,rfl⟩
   have aa:∀w,(Instr.index 329 (.agg (BV t)) (.int .i64 k)).run prog w=.ok (.agg #[.string y,.int .i64 c]) w:=by
    intro w;rw[r,U];exact Mj t k n hlt w
   have D:Hid (bs y=(jQ t k).1):=by
    show _=_;rw[r]
   have X:Hid (c=(jQ t k).2):=U
   clear r U
   by_cases hc0:c=0
   ·subst hc0
    have H:Hid (∀j,j<k+1->(jQ t j).2≠0->(jQ t j).1≠bs s):=by
     intro j J
     by_cases e:j=k
     ·subst e;intro h;exact absurd X.out.symm h
     ·exact I.out j (by omega)
    go_wp2
    go_roundg (4-(k+1))
    case measure=>omega
    case rel=>exact ⟨k+1,rfl,by omega,by go_num,H,l.alloc u _⟩
   ·have Q:¬(c:Int)=0:=by omega
    have ab:((c:Int) != 0)=true:=by simpa using Q
    by_cases heq:bs y=bs s
    ·have h1:=sS y s heq
     have H:Hid (iP t (bs s)=c):=by rw[Hid,<-heq,D.out,X.out];exact Mz t k n hlt (by rw[<-X.out];exact hc0)
     clear heq
     go_wp2
     go_ret
     exact ⟨fN (by rw[H.out]),l.alloc u _⟩
    ·have h1:=yC y s heq
     have H:Hid (∀j,j<k+1->(jQ t j).2≠0->(jQ t j).1≠bs s):=by
      intro j J
      by_cases e:j=k
      ·subst e;intro _;rw[<-D.out];exact heq
      ·exact I.out j (by omega)
     clear heq
     go_wp2
     go_roundg (4-(k+1))
     case measure=>omega
     case rel=>exact ⟨k+1,rfl,by omega,by go_num,H,l.alloc u _⟩
  ·have H:Hid (iP t (bs s)=0):=Ce t n _ (fun j hj=>I.out j (by omega))
   go_wp2
   go_ret
   exact ⟨fN (by rw[H.out];rfl),l⟩
end
section
open Go.RowKit Px
structure dV where
 rb:Nat
 g:Nat
 cap:Nat
 L:List Lx.fQ
structure Wf (L:List Lx.fQ):Prop where
 pos:0<L.length
 len:L.length≤601
 endk:kd L (L.length-1)=4
 endt:tx L (L.length-1)=[]
 num:∀k,kd L k=2->(∀c∈tx L k,48≤c.toNat/\c.toNat≤57)/\(tx L k).length≤18/\tx L k≠[]
theorem Wf.next {L:List Lx.fQ}(h:Wf L) {i:Nat}(k:i<L.length) (c:tx L i≠[]):i+1<L.length:=by
 rcases aY1 (i+1) L.length with j|j
 ·exact j
 ·have:i=L.length-1:=by omega
  rw[this] at c;exact absurd h.endt c
theorem Wf.nextk {L:List Lx.fQ}(h:Wf L) {i:Nat}(k:i<L.length) (c:kd L i≠4):i+1<L.length:=by
 rcases aY1 (i+1) L.length with j|j
 ·exact j
 ·have:i=L.length-1:=by omega
  rw[this] at c;exact absurd h.endk c
def rdC (C:dV) (i st ins und:Nat):Obj:=.cells #[.slice (some ⟨C.g,0,none⟩) C.L.length C.cap,.int .i64 i,.int .i64 st,.int .i64 ins,.int .i64 und] 121 (0,0)
structure PS (C:dV) (w:World) (i st ins und:Nat):Prop where
 rd:w.heap[C.rb]?=some (rdC C i st ins und)
 tk:∀k t,C.L[k]?=some t->w.cell? ⟨C.g,k*3,none⟩=some (.int .i64 t.kind)/\w.cell? ⟨C.g,k*3+1,none⟩=some (sv t.text)/\w.cell? ⟨C.g,k*3+2,none⟩=some (.int .i64 t.place)
 tab:rD w
 lt:i<C.L.length
 wf:Wf C.L
 gr:C.g<C.rb
 hi:11<C.g
theorem PS.keep {C:dV}{w w':World}{i st ins und i' st' ins' und':Nat}(h:PS C w i st ins und) (r:Fr w.heap.size [C.rb] w w') (u:w'.heap[C.rb]?=some (rdC C i' st' ins' und')) (c:i'<C.L.length):PS C w' i' st' ins' und':=by
 have j:=aB h.rd
 have l:=Nat.lt_trans h.gr j
 have n:w'.heap[C.g]?=w.heap[C.g]?:=r.block _ l (by simp;exact Nat.ne_of_lt h.gr)
 refine ⟨u,fun k t s=>?_,h.tab.keep (fun b hb=>r.block b (by have:=h.hi;omega) (by have:=h.hi;have:=h.gr;simp;omega)),c,h.wf,h.gr,h.hi⟩
 have:=h.tk k t s
 rw[aY6 (w:=w) (a:=⟨C.g,k*3,none⟩) n,aY6 (w:=w) (a:=⟨C.g,k*3+1,none⟩) n,aY6 (w:=w) (a:=⟨C.g,k*3+2,none⟩) n]
 exact this
theorem PS.same {C:dV}{w w':World}{i st ins und:Nat}(h:PS C w i st ins und) (hf:Fr w.heap.size [] w w'):PS C w' i st ins und:=
 h.keep (hf.mono (aO4 _) (by simp)) (by rw[hf.block _ (aB h.rd) (by simp)];exact h.rd) h.lt
theorem PS.cells {C:dV}{w:World}{i st ins und:Nat}(h:PS C w i st ins und) :
    w.cell? ⟨C.rb,0,none⟩=some (.slice (some ⟨C.g,0,none⟩) C.L.length C.cap)/\w.cell? ⟨C.rb,1,none⟩=some (.int .i64 i)/\w.cell? ⟨C.rb,2,none⟩=some (.int .i64 st)/\w.cell? ⟨C.rb,3,none⟩=some (.int .i64 ins)/\w.cell? ⟨C.rb,4,none⟩=some (.int .i64 und):=by
 have:=h.rd
 refine ⟨?_,?_,?_,?_,?_⟩<;>(rw[cell_of_row _ _ _ _ _ _ h.rd];rfl)
theorem PS.frozen {C:dV}{w:World}{i st ins und:Nat}(h:PS C w i st ins und) (o:Nat):w.frozen? ⟨C.rb,o,none⟩=false:=by
 simp[World.frozen?,h.rd,rdC]
theorem Vz {L:List Lx.fQ}{i:Nat}(h:i<L.length):L[i]?=some (Jv L i):=by
 rw[Jv,iO,aN4 h];rfl
theorem PS.now {C:dV}{w:World}{i st ins und:Nat}(h:PS C w i st ins und) :
    w.cell? ⟨C.g,i*3,none⟩=some (.int .i64 (kd C.L i))/\w.cell? ⟨C.g,i*3+1,none⟩=some (sv (tx C.L i))/\w.cell? ⟨C.g,i*3+2,none⟩=some (.int .i64 (pl C.L i)):=h.tk i _ (Vz h.lt)
theorem PS.set {C:dV}{w:World}{i st ins und:Nat}(h:PS C w i st ins und) (o:Nat) (v:Value) {i' st' ins' und':Nat}(k:(#[.slice (some ⟨C.g,0,none⟩) C.L.length C.cap,.int .i64 i,.int .i64 st,.int .i64 ins,.int .i64 und]:Array Value).setIfInBounds o v=#[.slice (some ⟨C.g,0,none⟩) C.L.length C.cap,.int .i64 i',.int .i64 st',.int .i64 ins',.int .i64 und']) (c:i'<C.L.length) :
    PS C (w.setCell ⟨C.rb,o,none⟩ v) i' st' ins' und'/\Fr w.heap.size [C.rb] w (w.setCell ⟨C.rb,o,none⟩ v):=by
 have j:Fr w.heap.size [C.rb] w (w.setCell ⟨C.rb,o,none⟩ v):=(Fr.refl _ _ _).setCell (.inr (by simp)) v
 refine ⟨h.keep j ?_ c,j⟩
 rw[heap_setCell_same w C.rb o _ 121 _ h.rd,k];rfl
def aR (C:dV) (w:World) (f:F) (e:Ending) (w':World):Prop:=
 ∃q,e=.panicked [{ v:=.iface 89 (.pointer (some ⟨q,0,none⟩)),recovered:=false }]/\w'.heap[q]?=some (.cells #[.int .i64 f.1,.int .i64 f.2] 91 (0,0))/\w.heap.size≤q/\Fr w.heap.size [C.rb] w w'
theorem aR.up {C:dV}{w w1 w':World}{f:F}{e:Ending}(c:Fr w.heap.size [C.rb] w w1) (h:aR C w1 f e w'):aR C w f e w':=by
 obtain ⟨q,j,l,k,n⟩:=h
 exact ⟨q,j,l,aO6 c.size k,c.trans (n.mono c.size (by simp))⟩
def vU (C:dV) {α:Type}(ok:α->Value->World->Prop) (w:World) (r:Except F α) (e:Ending) (w':World):Prop:=
 match r with
 | .error f=>aR C w f e w'
 | .ok a=>∃v,e=.returned v/\ok a v w'/\Fr w.heap.size [C.rb] w w'
theorem Fr.up {X:List Nat}{w w1 w2:World}(h:Fr w.heap.size X w w1) (k:Fr w1.heap.size X w1 w2):Fr w.heap.size X w w2:=h.trans (k.mono h.size (fun _ hx _=>hx))
section
variable {C:dV}{w:World}{i st ins und:Nat}
theorem xW (h:PS C w i st ins und):Calls prog 106 #[.pointer (some ⟨C.rb,0,none⟩)] w fun e w'=>e=.returned (sv (tx C.L i))/\PS C w' i st ins und/\Fr w.heap.size [] w w':=by
 obtain ⟨c0,c1,-⟩:=h.cells
 obtain ⟨-,l,-⟩:=h.now
 have H:Hid _:=h
 have k:(0:Int)≤(i:Int):=Int.natCast_nonneg _
 have j:(i:Int)<(C.L.length:Int):=by have:=h.lt;omega
 clear h
 go_enter Tryz.func106,Tryz.ntmps106
 go_wp2
 go_quiet (fail)
 go_wp2
 go_ret
 have c:=(Fr.refl w.heap.size [] w).drewN nq
 exact ⟨rfl,H.out.same c,c⟩
theorem gX (h:PS C w i st ins und) (e:Nat):Calls prog 111 #[.pointer (some ⟨C.rb,0,none⟩),.int .i64 e] w fun en w'=>aR C w (e,pl C.L i) en w':=by
 obtain ⟨c0,c1,-⟩:=h.cells
 obtain ⟨-,-,l⟩:=h.now
 have j:(0:Int)≤(i:Int):=Int.natCast_nonneg _
 have c:(i:Int)<(C.L.length:Int):=by have:=h.lt;omega
 have k:∀(v:Value) (w:World),(Instr.panic (.iface 89 v)).run prog w=.halt (.panic (.iface 89 v)) w:=fun _ _=>rfl
 clear h
 go_enter Tryz.func111,Tryz.ntmps111
 go_wp2
 go_still_tail 13,(by kernel_rfl)
 go_wp2
 exact ⟨rfl,_,rfl,heap_alloc_new w _,aO4 _,((Fr.refl _ _ _).alloc (aO4 _) _).drew⟩
theorem kD (h c:Nat) (k:h<c):Calls prog 107 #[.pointer (some ⟨C.rb,0,none⟩),.int .i64 h,.int .i64 c] w fun e w'=>e=.returned (.tuple #[])/\w'=w:=by
 have j:¬(c:Int)≤(h:Int):=by omega
 go_enter Tryz.func107,Tryz.ntmps107
 go_wp2
 go_end0
 exact ⟨rfl,rfl⟩
theorem nZ (h:PS C w i st ins und) (c j:Nat) (l:j≤c):Calls prog 107 #[.pointer (some ⟨C.rb,0,none⟩),.int .i64 c,.int .i64 j] w fun e w'=>aR C w (4,pl C.L i) e w':=by
 have n:(j:Int)≤(c:Int):=by omega
 go_enter Tryz.func107,Tryz.ntmps107
 go_wp2_with (go_at_call 111;refine (gX h 4).mono ?_;rintro e w' ⟨q,rfl,k⟩)
 exact ⟨rfl,q,rfl,k⟩
theorem dM (h:PS C w i st ins und) (s:ByteArray) (n:tx C.L i=bs s) (j:bs s≠[]):Calls prog 109 #[.pointer (some ⟨C.rb,0,none⟩),.string s] w fun e w'=>e=.returned (.bool true)/\PS C w' (i+1) st ins und/\Fr w.heap.size [C.rb] w w':=by
 have k:=h.wf.next h.lt (by rw[n];exact j)
 have y:=h.wf.len
 have u:(tx C.L i==s.toList)=true:=by
  rw[ByteArray.toList_eq];exact beq_iff_eq.2 n
 clear n j
 go_enter Tryz.func109,Tryz.ntmps109
 go_wp2_with (go_at_call 106;refine (xW h).mono ?_;rintro e w1 ⟨rfl,r,l⟩;obtain ⟨-,c1,-⟩:=r.cells;have z1:=r.frozen 1;rw[sv])
 go_ret
 have c:=r.set 1 (.int .i64 ((i+1:Nat):Int)) (i':=i+1) (st':=st) (ins':=ins) (und':=und) rfl k
 refine ⟨rfl,?_,?_⟩
 ·exact c.1
 ·exact (l.mono (aO4 _) (by simp)).up c.2
theorem cN (h:PS C w i st ins und) (s:ByteArray) (j:tx C.L i≠bs s):Calls prog 109 #[.pointer (some ⟨C.rb,0,none⟩),.string s] w fun e w'=>e=.returned (.bool false)/\PS C w' i st ins und/\Fr w.heap.size [] w w':=by
 have l:(tx C.L i==s.toList)=false:=by
  rw[ByteArray.toList_eq];exact beq_eq_false_iff_ne.2 j
 clear j
 go_enter Tryz.func109,Tryz.ntmps109
 go_wp2_with (go_at_call 106;refine (xW h).mono ?_;rintro e w1 ⟨rfl,k,c⟩;rw[sv])
 go_ret
 exact ⟨rfl,k,c⟩
theorem cD (h:PS C w i st ins und) (s:ByteArray) (k:bE) (n:bs s=k) (j:k≠[]):Calls prog 101 #[.pointer (some ⟨C.rb,0,none⟩),.string s] w (vU C (fun _ v w'=>v=.tuple #[]/\PS C w' (i+1) st ins und) w (wZ C.L k i)):=by
 subst n
 by_cases hs:tx C.L i=bs s
 ·have H:Hid (wZ C.L (bs s) i=.ok ()):=if_pos hs
  go_enter Tryz.func101,Tryz.ntmps101
  go_wp2_with (go_at_call 109;refine (dM h s hs j).mono ?_;rintro e w1 ⟨rfl,l,c⟩)
  go_end0
  rw[H.out]
  exact ⟨_,rfl,⟨rfl,l⟩,c⟩
 ·have H:Hid (wZ C.L (bs s) i=.error (3,pl C.L i)):=if_neg hs
  go_enter Tryz.func101,Tryz.ntmps101
  go_wp2_with (first
   | (go_at_call 109;refine (cN h s hs).mono ?_;rintro e w1 ⟨rfl,l,c⟩)
   | (go_at_call 111;refine (gX l 3).mono ?_;rintro e w2 ⟨q,rfl,r⟩))
  rw[H.out]
  exact ⟨rfl,aR.up (c.mono (aO4 _) (by simp)) ⟨q,rfl,r⟩⟩
theorem PS.new {C:dV}{w:World}{i st ins und:Nat}(h:PS C w i st ins und) (o:Obj):PS C ((w.alloc o).drew) i st ins und/\Fr w.heap.size [] w ((w.alloc o).drew):=by
 have c:Fr w.heap.size [] w ((w.alloc o).drew):=((Fr.refl _ _ _).alloc (aO4 _) o).drew
 exact ⟨h.same c,c⟩
theorem C7 (w:World) (a b c:Value) (t:TypeId):((w.alloc (.cells #[a,b,c] t)).drew).cell? ⟨w.heap.size,0,none⟩=some a/\((w.alloc (.cells #[a,b,c] t)).drew).cell? ⟨w.heap.size,1,none⟩=some b/\((w.alloc (.cells #[a,b,c] t)).drew).cell? ⟨w.heap.size,2,none⟩=some c:=by simp
theorem PS.step {C:dV}{w:World}{i st ins und:Nat}(h:PS C w i st ins und) (hlt:i+1<C.L.length):PS C (w.setCell ⟨C.rb,1,none⟩ (.int .i64 ((i:Int)+1))) (i+1) st ins und/\Fr w.heap.size [C.rb] w (w.setCell ⟨C.rb,1,none⟩ (.int .i64 ((i:Int)+1))):=h.set 1 _ rfl hlt
theorem PS.back {C:dV}{w:World}{i st ins und:Nat}(h:PS C w (i+1) st ins und):PS C (w.setCell ⟨C.rb,1,none⟩ (.int .i64 (i:Int))) i st ins und/\Fr w.heap.size [C.rb] w (w.setCell ⟨C.rb,1,none⟩ (.int .i64 (i:Int))):=h.set 1 _ rfl (by have:=h.lt;omega)
theorem PS.more {C:dV}{w:World}{i st ins und:Nat}(h:PS C w i st ins und):PS C (w.setCell ⟨C.rb,2,none⟩ (.int .i64 ((st:Int)+1))) i (st+1) ins und/\Fr w.heap.size [C.rb] w (w.setCell ⟨C.rb,2,none⟩ (.int .i64 ((st:Int)+1))):=h.set 2 _ rfl h.lt
theorem PS.into {C:dV}{w:World}{i st ins und:Nat}(h:PS C w i st ins und):PS C (w.setCell ⟨C.rb,3,none⟩ (.int .i64 ((ins:Int)+1))) i st (ins+1) und/\Fr w.heap.size [C.rb] w (w.setCell ⟨C.rb,3,none⟩ (.int .i64 ((ins:Int)+1))):=h.set 3 _ rfl h.lt
theorem PS.outOf {C:dV}{w:World}{i st ins und:Nat}(h:PS C w i st (ins+1) und):PS C (w.setCell ⟨C.rb,3,none⟩ (.int .i64 (ins:Int))) i st ins und/\Fr w.heap.size [C.rb] w (w.setCell ⟨C.rb,3,none⟩ (.int .i64 (ins:Int))):=h.set 3 _ rfl h.lt
theorem PS.down {C:dV}{w:World}{i st ins und:Nat}(h:PS C w i st ins und):PS C (w.setCell ⟨C.rb,4,none⟩ (.int .i64 ((und:Int)+1))) i st ins (und+1)/\Fr w.heap.size [C.rb] w (w.setCell ⟨C.rb,4,none⟩ (.int .i64 ((und:Int)+1))):=h.set 4 _ rfl h.lt
theorem PS.upAgain {C:dV}{w:World}{i st ins und:Nat}(h:PS C w i st ins (und+1)):PS C (w.setCell ⟨C.rb,4,none⟩ (.int .i64 (und:Int))) i st ins und/\Fr w.heap.size [C.rb] w (w.setCell ⟨C.rb,4,none⟩ (.int .i64 (und:Int))):=h.set 4 _ rfl h.lt
theorem PS.lts {C:dV}{w:World}{i st ins und:Nat}(h:PS C w i st ins und):C.rb<w.heap.size/\C.g<w.heap.size:=⟨aB h.rd,Nat.lt_trans h.gr (aB h.rd)⟩
theorem eZ (h:PS C w i st ins und):Calls prog 102 #[.pointer (some ⟨C.rb,0,none⟩)] w (vU C (fun s v w'=>v=sv s/\PS C w' (i+1) st ins und) w (nm C.L i)):=by
 obtain ⟨c0,c1,-⟩:=h.cells
 obtain ⟨Z,t1,t2⟩:=h.now
 obtain ⟨l1,l2⟩:=h.lts
 have ab:(0:Int)≤(i:Int):=Int.natCast_nonneg _
 have aa:(i:Int)<(C.L.length:Int):=by have:=h.lt;omega
 have h6:=h.wf.len
 obtain ⟨tb,I⟩:∃tb:ByteArray,Hid (tb=⟨(tx C.L i).toArray⟩):=⟨_,rfl⟩
 have y:Hid (bs tb=tx C.L i):=by rw[Hid,I.out]
 have hsz:Hid (tb.size=(tx C.L i).length):=by rw[Hid,<-y.out];exact (fP tb).symm
 rw[sv,<-I.out] at t1
 by_cases hk1:kd C.L i=1
 ·have j:((kd C.L i:Nat):Int)=1:=by omega
  rw[j] at Z
  have H1:Hid _:=hk1
  clear hk1 j
  by_cases hkw:kw (bs tb)=true
  ·have H:Hid (nm C.L i=.error (3,pl C.L i)):=if_pos (.inr (by rw[<-y.out];exact hkw))
   have O:∀w',rD w'->Calls prog 148 #[.string tb] w' fun e D=>e=.returned (.bool true)/\D=w':=fun w' n=>by
    have:=wQ tb w' n;rw[hkw] at this;exact this
   clear hkw
   go_enter Tryz.func102,Tryz.ntmps102
   go_wp2
   go_region
   obtain ⟨k,c⟩:=h.new (.cells #[.int .i64 1,.string tb,.int .i64 (pl C.L i)] 167)
   go_wp2_with (first
    | (go_at_call 148;refine (O _ k.tab).mono ?_;rintro e w1 ⟨rfl,l⟩;obtain rfl:=l.symm)
    | (go_at_call 111;refine (gX k 3).mono ?_;rintro e w2 ⟨q,rfl,n⟩))
   rw[H.out]
   exact ⟨rfl,aR.up (c.mono (aO4 _) (by simp)) ⟨q,rfl,n⟩⟩
  ·have r:kw (bs tb)=false:=by simpa using hkw
   have O:∀w',rD w'->Calls prog 148 #[.string tb] w' fun e D=>e=.returned (.bool false)/\D=w':=fun w' n=>by
    have:=wQ tb w' n;rw[r] at this;exact this
   have HK:Hid (¬(kd C.L i≠1\/kw (tx C.L i)=true)):=by
    rw[Hid,<-y.out];rintro (h|h)
    ·exact h H1.out
    ·exact hkw h
   clear hkw r
   by_cases hln:12<tb.size
   ·have H:Hid (nm C.L i=.error (4,pl C.L i)):=by rw[Hid,nm,if_neg HK.out,if_pos (by rw[<-hsz.out];exact hln)]
    have J:(12:Int)<(tb.size:Int):=by omega
    go_enter Tryz.func102,Tryz.ntmps102
    go_wp2
    go_region
    obtain ⟨k,c⟩:=h.new (.cells #[.int .i64 1,.string tb,.int .i64 (pl C.L i)] 167)
    go_wp2_with (first
     | (go_at_call 148;refine (O _ k.tab).mono ?_;rintro e w1 ⟨rfl,l⟩;obtain rfl:=l.symm)
     | (go_at_call 111;refine (gX k 4).mono ?_;rintro e w2 ⟨q,rfl,n⟩))
    rw[H.out]
    exact ⟨rfl,aR.up (c.mono (aO4 _) (by simp)) ⟨q,rfl,n⟩⟩
   ·have H:Hid (nm C.L i=.ok (tx C.L i)):=by rw[Hid,nm,if_neg HK.out,if_neg (by rw[<-hsz.out];exact hln)]
    have J:¬(12:Int)<(tb.size:Int):=by omega
    have Q:=h.wf.nextk h.lt (by rw[H1.out];decide)
    go_enter Tryz.func102,Tryz.ntmps102
    go_wp2
    go_region
    obtain ⟨k,c⟩:=h.new (.cells #[.int .i64 1,.string tb,.int .i64 (pl C.L i)] 167)
    obtain ⟨e0,e1,Y⟩:=C7 w (.int .i64 1) (.string tb) (.int .i64 (pl C.L i)) 167
    generalize (w.alloc (.cells #[.int .i64 1,.string tb,.int .i64 (pl C.L i)] 167)).drew=w1 at k c e0 e1 Y ⊢
    obtain ⟨-,d1,-⟩:=k.cells
    have z1:=k.frozen 1
    have X:¬C.rb=w.heap.size:=by omega
    clear c0 c1 Z t1 t2 Y
    go_wp2_with (first
     | (go_at_call 148;refine (O _ k.tab).mono ?_;rintro e w2 ⟨rfl,l⟩;obtain rfl:=l.symm))
    go_ret
    rw[H.out]
    have u:=k.step Q
    exact ⟨_,rfl,⟨by rw[I.out];rfl,u.1⟩,(c.mono (aO4 _) (by simp)).up u.2⟩
 ·have j:¬((kd C.L i:Nat):Int)=1:=by omega
  have U:(((kd C.L i:Nat):Int) != 1)=true:=by simpa using j
  have H:Hid (nm C.L i=.error (3,pl C.L i)):=if_pos (.inl hk1)
  clear hk1
  go_enter Tryz.func102,Tryz.ntmps102
  go_wp2
  go_region
  obtain ⟨k,c⟩:=h.new (.cells #[.int .i64 (kd C.L i),.string tb,.int .i64 (pl C.L i)] 167)
  go_wp2_with (go_at_call 111;refine (gX k 3).mono ?_;rintro e w2 ⟨q,rfl,n⟩)
  rw[H.out]
  exact ⟨rfl,aR.up (c.mono (aO4 _) (by simp)) ⟨q,rfl,n⟩⟩
end
end
section
open Go.RowKit Px
def Ge (n b:Nat):Prop:=n≤b
theorem vD {C:dV}{n:Nat}{w w':World}(hn:C.rb<n) (hf:Fr w.heap.size [C.rb] w w'):bB (Ge n) (Ge n) w w':=hf.keep (fun b hb=>by simp[Ge] at *;omega)
theorem jR.ge {n m:Nat}{w:World}{e:E}{v:Value}(h:jR (Ge m) w e v) (hn:n≤m):jR (Ge n) w e v:=h.carry (fun _ hb _=>⟨aO6 hn hb,rfl⟩)
theorem xH {A:Nat->Prop}{w w':World}(hf:Fr w.heap.size [] w w'):bB A A w w':=hf.keep (by simp)
def Vp (C:dV) (w:World) (st ins und:Nat) (p:E×Nat) (v:Value) (w':World):Prop:=jR (Ge w.heap.size) w' p.1 v/\PS C w' p.2 st ins und
def Vj (C:dV) (k:Nat):Prop:=∀(w:World) (i st ins und:Nat),und+k=7->PS C w i st ins und->Calls prog 249 #[.pointer (some ⟨C.rb,0,none⟩)] w (vU C (Vp C w st ins und) w (one C.L k i))
def zU (C:dV) (k t:Nat):Prop:=∀(w:World) (i st ins und:Nat),und+k=7->PS C w i st ins und->Calls prog 242 #[.pointer (some ⟨C.rb,0,none⟩),.int .i64 ((5-t:Nat):Int)] w (vU C (Vp C w st ins und) w (A5 C.L (one C.L k) t i))
theorem eI {C:dV}{w:World}{i st ins und:Nat}(h:PS C w i st ins und) (tb:ByteArray) (c:Hid (bs tb=tx C.L i)):Calls prog 106 #[.pointer (some ⟨C.rb,0,none⟩)] w fun e w'=>e=.returned (.string tb)/\PS C w' i st ins und/\Fr w.heap.size [] w w':=by
 refine (xW h).mono ?_
 rintro e w' ⟨rfl,k,j⟩
 exact ⟨by rw[sv,<-c.out],k,j⟩
theorem qA {C:dV}{w:World}{i st ins und:Nat}(h:PS C w i st ins und) (tb:ByteArray) (t c:Nat) (k:t<5) (l:Hid (iP t (bs tb)=c)):Calls prog 250 #[.string tb,.int .i64 t] w fun e w'=>e=.returned (.int .i64 c)/\PS C w' i st ins und/\Fr w.heap.size [] w w':=by
 refine (xA tb t k w h.tab).mono ?_
 rintro e w' ⟨rfl,hb⟩
 have j:=Fr.of_below hb []
 exact ⟨by rw[l.out],h.same j,j⟩
theorem vU.cases {C:dV}{α:Type}{ok:α->Value->World->Prop}{w:World}{r:Except F α}{e:Ending}{w':World}(h:vU C ok w r e w'):(∃f,Hid (r=.error f)/\aR C w f e w')\/(∃a v,Hid (r=.ok a)/\e=.returned v/\ok a v w'/\Fr w.heap.size [C.rb] w w'):=by
 cases r with
 | error f=>exact .inl ⟨f,rfl,h⟩
 | ok a=>obtain ⟨v,c,k,j⟩:=h;exact .inr ⟨a,v,rfl,c,k,j⟩
theorem Gs {C:dV}{k:Nat}(l:Vj C k):zU C k 0:=by
 intro w i st ins und n h
 go_enter Tryz.func242,Tryz.ntmps242
 go_wp2_with (go_at_call 249;refine (l w i st ins und n h).mono ?_;rintro e w1 u;rcases u.cases with ⟨f,c,q,rfl,r⟩|⟨p,v,c,rfl,s,j⟩;· exact ⟨rfl,by rw[A5,c.out];exact ⟨q,rfl,r⟩⟩)
 go_ret
 rw[A5,c.out]
 exact ⟨v,rfl,s,j⟩
theorem Xt {w:World}{c B n:Nat}{l r:E}{h rv:Value}(y:w.heap.size=n) (hB:B≤n) (s:jR (Ge B) w l h) (u:jR (Ge B) w r rv) :
    jR (Ge B) (w.alloc (.cells #[.int .i64 c,.int .i64 0,.string ⟨#[]⟩,h,rv] 307)) (Mw c l r) (.pointer (some ⟨n,0,none⟩)):=by
 subst y
 have k:bB (Ge B) (Ge B) w (w.alloc (.cells #[.int .i64 c,.int .i64 0,.string ⟨#[]⟩,h,rv] 307)):=fun b j hb=>⟨j,Below.heap_alloc _ _ _ hb⟩
 exact ⟨w.heap.size,h,rv,rfl,hB,heap_alloc_new w _,s.carry k,u.carry k⟩
theorem jR.ptr {A:Nat->Prop}{w:World}{e:E}{v:Value}(h:jR A w e v):∃u,v=.pointer u:=by
 cases e with
 | nil=>exact ⟨none,h⟩
 | node b o a l r=>obtain ⟨g,c,rv,rfl,_⟩:=h;exact ⟨_,rfl⟩
theorem Fr.wide {B:Nat}{X:List Nat}{w w':World}(h:Fr B [] w w'):Fr B X w w':=h.mono (aO4 _) (by simp)
theorem Nj {L:List Lx.fQ}{below:Nat->Except F (E×Nat)}{code:bE->Nat}(hb:∀i e j,below i=.ok (e,j)->i<j):∀(f:Nat) (e:E) (i:Nat) (c:E) (j:Nat),lB L below code f e i=.ok (c,j)->i≤j:=by
 intro f
 induction f with
 | zero=>intro e i c j h;rw[lB] at h;injection h with h;injection h with _ k;omega
 | succ f ih=>
  intro e i c j h
  rw[lB] at h
  split at h
  ·injection h with h;injection h with _ k;omega
  ·split at h
   ·exact absurd h (by simp)
   ·rename_i r m hm
    have l:=hb _ _ _ hm
    have k:=ih _ _ _ _ h
    omega
theorem Fb {L:List Lx.fQ}{one:Nat->Except F (E×Nat)}(c:∀i e j,one i=.ok (e,j)->i<j):∀(t i:Nat) (e:E) (j:Nat),A5 L one t i=.ok (e,j)->i<j:=by
 intro t
 induction t with
 | zero=>exact c
 | succ t ih=>
  intro i e j h
  rw[A5,zI] at h
  split at h
  ·exact absurd h (by simp)
  ·rename_i e1 m hm
   have l:=ih _ _ _ hm
   have k:=Nj ih _ _ _ _ _ h
   omega
theorem Qv {L:List Lx.fQ}:∀(k i:Nat) (e:E) (j:Nat),one L k i=.ok (e,j)->i<j:=by
 intro k
 induction k with
 | zero=>intro i e j h;rw[one] at h;exact absurd h (by simp)
 | succ k ih=>
  intro i e j h
  rw[one] at h
  split at h
  ·split at h
   ·exact absurd h (by simp)
   ·rename_i m hm
    have:=ih _ _ _ hm
    injection h with h;injection h with _ h2;omega
  ·split at h
   ·split at h
    ·exact absurd h (by simp)
    ·rename_i m hm
     have:=Fb ih _ _ _ _ hm
     split at h
     ·injection h with h;injection h with _ h2;omega
     ·exact absurd h (by simp)
   ·split at h
    ·split at h
     ·split at h
      ·exact absurd h (by simp)
      ·split at h
       ·injection h with h;injection h with _ h2;omega
       ·exact absurd h (by simp)
     ·exact absurd h (by simp)
    ·split at h
     ·injection h with h;injection h with _ h2;omega
     ·split at h
      ·exact absurd h (by simp)
      ·injection h with h;injection h with _ h2;omega
theorem Gt {C:dV}{k t:Nat}(ht:t<5) (hc:zU C k t):zU C k (t+1):=by
 intro w i st ins und hu h
 have aa:((5-(t+1):Nat):Int)+1=((5-t:Nat):Int):=by omega
 have ae:¬((5-(t+1):Nat):Int)=5:=by omega
 have af:(((5-(t+1):Nat):Int)==5)=false:=by simpa using ae
 obtain ⟨y,Y⟩:∃y,Hid (y=5-(t+1)):=⟨_,rfl⟩
 have D:y<5:=by have:=Y.out;omega
 have am:Hid (y=4-t):=by rw[Hid,Y.out];omega
 rw[<-Y.out] at aa ae af ⊢
 have I:∀(w:World) (i st ins und:Nat),und+k=7->PS C w i st ins und->Calls prog 242 #[.pointer (some ⟨C.rb,0,none⟩),.int .i64 ((y:Int)+1)] w (vU C (Vp C w st ins und) w (A5 C.L (one C.L k) t i)):=fun w i st ins und hu h=>by
  rw[aa];exact hc w i st ins und hu h
 clear aa
 go_enter Tryz.func242,Tryz.ntmps242
 go_wp2_with (go_at_call 242;refine (I w i st ins und hu h).mono ?_;rintro e w1 h1;rcases h1.cases with ⟨f,hr,q,rfl,hq⟩|⟨⟨e0,i0⟩,v,hr,rfl,⟨hv,h1⟩,hf⟩;· exact ⟨rfl,by rw[A5,zI,hr.out];exact ⟨q,rfl,hq⟩⟩)
 have HR:Hid (A5 C.L (one C.L k) (t+1) i=lB C.L (A5 C.L (one C.L k) t) (iP y) C.L.length e0 i0):=by
  rw[Hid,A5,zI,hr.out,am.out]
 go_loopg [5] C.L.length (fun g v wr=>∃(e:E) (j:Nat),Hid (A5 C.L (one C.L k) (t+1) i=lB C.L (A5 C.L (one C.L k) t) (iP y) g e j)/\C.L.length≤g+j/\jR (Ge w.heap.size) wr e v/\PS C wr j st ins und/\Fr w.heap.size [C.rb] w wr)
 case atStart=>exact ⟨e0,i0,HR,by omega,hv,h1,hf⟩
 case round=>
  obtain ⟨e1,j,Z,hg,ac,n,Q⟩:=hrel
  obtain ⟨p1,rfl⟩:=ac.ptr
  obtain ⟨tb,ab⟩:∃tb:ByteArray,Hid (bs tb=tx C.L j):=⟨⟨(tx C.L j).toArray⟩,rfl⟩
  obtain ⟨c,ad⟩:∃c,Hid (iP y (bs tb)=c):=⟨_,rfl⟩
  have l:Hid (iP y (tx C.L j)=c):=by rw[Hid,<-ab.out];exact ad.out
  obtain ⟨g',ai⟩:∃g',gk=g'+1:=⟨gk-1,by have:=n.lt;omega⟩
  subst ai
  have ar:=n.lt
  have au:=n.wf.len
  by_cases hc0:c=0
  ·subst hc0
   have HE:Hid (A5 C.L (one C.L k) (t+1) i=.ok (e1,j)):=by rw[Hid,Z.out,lB,if_pos l.out]
   go_wp2_with (first
    | (go_at_call 106;refine (eI n tb ab).mono ?_;rintro e w2 ⟨rfl,X,s⟩)
    | (go_at_call 250;refine (qA X tb y 0 D ad).mono ?_;rintro e w3 ⟨rfl,u,r⟩))
   go_ret
   rw[HE.out]
   refine ⟨_,rfl,⟨?_,u⟩,?_⟩
   ·exact (ac.carry (xH s)).carry (xH r)
   ·exact (Q.up s.wide).up r.wide
  ·have ap:¬(c:Int)=0:=by omega
   have aw:((c:Int)==0)=false:=by simpa using ap
   have U:tx C.L j≠[]:=by
    intro e;rw[e] at l
    have:∀t:Fin 5,iP t.val []=0:=by decide
    exact hc0 (by rw[<-l.out];exact this ⟨y,D⟩)
   have an:=n.wf.next n.lt U
   clear U
   go_wp2_with (first
    | (go_at_call 106;refine (eI n tb ab).mono ?_;rintro e w2 ⟨rfl,X,s⟩)
    | (go_at_call 250;refine (qA X tb y c D ad).mono ?_;rintro e w3 ⟨rfl,u,r⟩;obtain ⟨-,c1,-⟩:=u.cells;have z1:=u.frozen 1;obtain ⟨aj,O⟩:=u.step an;have ax:=u.lts.1)
    | (go_at_call 242;refine (I _ (j+1) st ins und hu aj).mono ?_;rintro e w5 h5;rcases h5.cases with ⟨f,J,q,rfl,hq⟩|⟨⟨e5,i5⟩,v5,J,rfl,⟨ah,al⟩,ag⟩;(· exact ⟨rfl,by rw[Z.out,lB,if_neg (by rw[l.out];exact hc0),J.out];exact aR.up (((Q.up s.wide).up r.wide).up O) ⟨q,rfl,hq⟩⟩);obtain ⟨p5,rfl⟩:=ah.ptr))
   have hF:Fr w.heap.size [C.rb] w w5:=(((Q.up s.wide).up r.wide).up O).up ag
   have ay:=hF.size
   have av:j+1<i5:=Fb (Qv k) _ _ _ _ J.out
   have hC:=h.lts.1
   have ao:jR (Ge w.heap.size) w5 e1 _:=((((ac.carry (xH s)).carry (xH r)).carry (vD hC O)).carry (vD hC ag))
   have ak:=ah.ge ((((Q.up s.wide).up r.wide).up O).size)
   go_roundg g'
   case measure=>omega
   case rel=>exact ⟨Mw c e1 e5,i5,by rw[Hid,Z.out,lB,if_neg (by rw[l.out];exact hc0),J.out,l.out],by omega,Xt rfl (by omega) ao ak,al.same ((Fr.refl _ _ _).alloc (aO4 _) _),hF.alloc (by omega) _⟩
end
end Go.Proofs.YthieaobjdpfcoaaGreatDoor
