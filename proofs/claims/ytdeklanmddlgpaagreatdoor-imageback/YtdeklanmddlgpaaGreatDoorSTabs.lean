import Derived.Test.YtdeklanmddlgpaaGreatDoorSRead
import Derived.Test.YtdeklanmddlgpaaGreatDoorSCr
import Derived.Deep.LoopGhost
set_option maxRecDepth 100000
set_option maxHeartbeats 2000000
namespace Go.Proofs.YtdeklanmddlgpaaGreatDoor
open Go.RowKit Px
theorem UG (a b:ByteArray):(a.toList==b.toList)=decide (bs a=bs b):=by
 rw[ByteArray.toList_eq,ByteArray.toList_eq,Bool.eq_iff_iff]
 simp only[beq_iff_eq,decide_eq_true_eq]
theorem Gz (a b:ByteArray) (h:bs a=bs b):(a.toList==b.toList)=true:=by rw[UG];exact decide_eq_true h
theorem Jk (a b:ByteArray) (h:bs a≠bs b):(a.toList==b.toList)=false:=by rw[UG];exact decide_eq_false h
def Fq (w:World) (b:Nat) (cs:List Value):Prop:=∀i v,cs[i]?=some v->w.cell? ⟨b,i,none⟩=some v
def kindsL:List AW:=[[],VL,RD,av]
def leadsL:List AW:=[eJ,VN,Ya]
def FL (p:AW×Nat):List Value:=[sv p.1,.int .i64 p.2]
def aheadL:List (AW×Nat):=[(IW,4),(ax,5)]
def ZE (l:List (AW×Nat)):List (AW×Nat):=(l++[([],0),([],0),([],0)]).take 4
def betweenL:List (List (AW×Nat)):=signs.map ZE
structure GI (w:World):Prop where
 words:Fq w 2 (words.map sv)
 kinds:Fq w 1 (kindsL.map sv)
 leads:Fq w 3 (leadsL.map sv)
 ahead:Fq w 7 (aheadL.flatMap FL)
 between:Fq w 6 (betweenL.flatMap (·.flatMap FL))
theorem Fq.keep {w w':World}{b:Nat}{cs:List Value}(h:Fq w b cs) (hb:w'.heap[b]?=w.heap[b]?):Fq w' b cs:=fun i v hv=>by
 rw[World.cell?_of_block (w:=w) (a:=⟨b,i,none⟩) hb];exact h i v hv
theorem GI.keep {w w':World}(h:GI w) (hb:∀b,b<11->w'.heap[b]?=w.heap[b]?):GI w':=
 ⟨h.words.keep (hb 2 (by omega)),h.kinds.keep (hb 1 (by omega)),h.leads.keep (hb 3 (by omega)),h.ahead.keep (hb 7 (by omega)),h.between.keep (hb 6 (by omega))⟩
theorem J8 (T n:Nat) (w:World) (b o:Nat) (cs:List Value) (hagg:(isAgg T).run Tryz.prog w=.ok true w) (hsz:(sizeOf T).run Tryz.prog w=.ok n w) (hn:cs.length=n)
    (h:∀j v,cs[j]?=some v->w.cell? ⟨b,o+j,none⟩=some v):(loadVar T ⟨b,o,none⟩).run Tryz.prog w=.ok (.agg cs.toArray) w:=by
 have hl:=run_loadCells_list (P:=Tryz.prog) w ⟨b,o,none⟩ cs (fun j v hv=>by
  have hadd:(⟨b,o,none⟩:Addr).add j=⟨b,o+j,none⟩:=by unfold Addr.add;split<;>simp_all
  rw[hadd];exact h j v hv)
 rw[hn] at hl
 unfold loadVar
 rw[Sem.run_bind,hagg]
 simp only[Result.andThen,if_true,Sem.run_bind,hsz,hl]
 rfl
theorem Hh (T n:Nat) (w:World) (b:Nat) (cs:List Value) (hagg:(isAgg T).run Tryz.prog w=.ok true w) (hsz:(sizeOf T).run Tryz.prog w=.ok n w) (hn:cs.length=n) (h:Fq w b cs):(loadVar T ⟨b,0,none⟩).run Tryz.prog w=.ok (.agg cs.toArray) w:=
 J8 T n w b 0 cs hagg hsz hn (fun j v hv=>by rw[Nat.zero_add];exact h j v hv)
def WV:Array Value:=(words.map sv).toArray
theorem eV (w:World):(Instr.index 250 (.agg WV) (.int .i64 0)).run Tryz.prog w=.ok (sv (words.getD 0 [])) w:=by kernel_rfl
theorem eU (w:World):(Instr.index 250 (.agg WV) (.int .i64 1)).run Tryz.prog w=.ok (sv (words.getD 1 [])) w:=by kernel_rfl
theorem eT (w:World):(Instr.index 250 (.agg WV) (.int .i64 2)).run Tryz.prog w=.ok (sv (words.getD 2 [])) w:=by kernel_rfl
theorem eS (w:World):(Instr.index 250 (.agg WV) (.int .i64 3)).run Tryz.prog w=.ok (sv (words.getD 3 [])) w:=by kernel_rfl
theorem eR (w:World):(Instr.index 250 (.agg WV) (.int .i64 4)).run Tryz.prog w=.ok (sv (words.getD 4 [])) w:=by kernel_rfl
theorem eQ (w:World):(Instr.index 250 (.agg WV) (.int .i64 5)).run Tryz.prog w=.ok (sv (words.getD 5 [])) w:=by kernel_rfl
theorem eP (w:World):(Instr.index 250 (.agg WV) (.int .i64 6)).run Tryz.prog w=.ok (sv (words.getD 6 [])) w:=by kernel_rfl
theorem eO (w:World):(Instr.index 250 (.agg WV) (.int .i64 7)).run Tryz.prog w=.ok (sv (words.getD 7 [])) w:=by kernel_rfl
theorem eN (w:World):(Instr.index 250 (.agg WV) (.int .i64 8)).run Tryz.prog w=.ok (sv (words.getD 8 [])) w:=by kernel_rfl
theorem eM (w:World):(Instr.index 250 (.agg WV) (.int .i64 9)).run Tryz.prog w=.ok (sv (words.getD 9 [])) w:=by kernel_rfl
theorem cY (w:World):(Instr.index 250 (.agg WV) (.int .i64 10)).run Tryz.prog w=.ok (sv (words.getD 10 [])) w:=by kernel_rfl
theorem cX (w:World):(Instr.index 250 (.agg WV) (.int .i64 11)).run Tryz.prog w=.ok (sv (words.getD 11 [])) w:=by kernel_rfl
theorem cV (w:World):(Instr.index 250 (.agg WV) (.int .i64 12)).run Tryz.prog w=.ok (sv (words.getD 12 [])) w:=by kernel_rfl
theorem cU (w:World):(Instr.index 250 (.agg WV) (.int .i64 13)).run Tryz.prog w=.ok (sv (words.getD 13 [])) w:=by kernel_rfl
theorem cR (w:World):(Instr.index 250 (.agg WV) (.int .i64 14)).run Tryz.prog w=.ok (sv (words.getD 14 [])) w:=by kernel_rfl
theorem cQ (w:World):(Instr.index 250 (.agg WV) (.int .i64 15)).run Tryz.prog w=.ok (sv (words.getD 15 [])) w:=by kernel_rfl
theorem cP (w:World):(Instr.index 250 (.agg WV) (.int .i64 16)).run Tryz.prog w=.ok (sv (words.getD 16 [])) w:=by kernel_rfl
theorem cM (w:World):(Instr.index 250 (.agg WV) (.int .i64 17)).run Tryz.prog w=.ok (sv (words.getD 17 [])) w:=by kernel_rfl
theorem cL (w:World):(Instr.index 250 (.agg WV) (.int .i64 18)).run Tryz.prog w=.ok (sv (words.getD 18 [])) w:=by kernel_rfl
theorem cJ (w:World):(Instr.index 250 (.agg WV) (.int .i64 19)).run Tryz.prog w=.ok (sv (words.getD 19 [])) w:=by kernel_rfl
theorem cH (w:World):(Instr.index 250 (.agg WV) (.int .i64 20)).run Tryz.prog w=.ok (sv (words.getD 20 [])) w:=by kernel_rfl
theorem OB (k:Nat) (hk:k<21) (w:World):(Instr.index 250 (.agg WV) (.int .i64 k)).run Tryz.prog w=.ok (sv (words.getD k [])) w:=by
 match k,hk with
 | 0,_=>exact eV w
 | 1,_=>exact eU w
 | 2,_=>exact eT w
 | 3,_=>exact eS w
 | 4,_=>exact eR w
 | 5,_=>exact eQ w
 | 6,_=>exact eP w
 | 7,_=>exact eO w
 | 8,_=>exact eN w
 | 9,_=>exact eM w
 | 10,_=>exact cY w
 | 11,_=>exact cX w
 | 12,_=>exact cV w
 | 13,_=>exact cU w
 | 14,_=>exact cR w
 | 15,_=>exact cQ w
 | 16,_=>exact cP w
 | 17,_=>exact cM w
 | 18,_=>exact cL w
 | 19,_=>exact cJ w
 | 20,_=>exact cH w
 | k+21,h=>omega
theorem ZY (k:Nat) (h:k<21):kw (words.getD k [])=true:=by
 have:∀k:Fin 21,kw (words.getD k.val [])=true:=by decide
 exact this ⟨k,h⟩
theorem au (s:AW) (h:∀j,j<21->words.getD j []≠s):kw s=false:=by
 rw[Bool.eq_false_iff]
 intro hk
 simp only[kw,List.any_eq_true,beq_iff_eq] at hk
 obtain ⟨x,hx,rfl⟩:=hk
 obtain ⟨j,hj,rfl⟩:=List.mem_iff_getElem.1 hx
 exact h j hj (by rw[List.getD_eq_getElem?_getD,List.getElem?_eq_getElem hj];rfl)
theorem Iz (s:ByteArray) (w:World) (ht:GI w):Calls Tryz.prog 189 #[.string s] w fun e w'=>e=.returned (.bool (kw (bs s)))/\w'=w:=by
 have hl:(loadVar 250 ⟨2,0,none⟩).run Tryz.prog w=.ok (.agg WV) w:=Hh 250 21 w 2 _ (by kernel_rfl) (by kernel_rfl) (by decide) ht.words
 clear ht
 go_enter Tryz.func189,Tryz.ntmps189
 go_wp2_with (refine Ad rfl 250 (.global 2) rfl ⟨2,0,none⟩ rfl (.agg WV) hl ?_;clear hl)
 go_loop [6] (fun i=>∃k:Nat,k≤21/\i=.int .i64 k/\Hid (∀j,j<k->words.getD j []≠bs s)) (fun i=>21-(intOf i).toNat)
 case atStart=>exact ⟨0,by omega,rfl,fun j hj=>absurd hj (by omega)⟩
 case round=>
  obtain ⟨k,hk,rfl,hr⟩:=hrel
  by_cases hlt:k<21
  ·obtain ⟨mb,hmb⟩:∃mb:ByteArray,mb=⟨(words.getD k []).toArray⟩:=⟨_,rfl⟩
   have hix:∀w,(Instr.index 250 (.agg WV) (.int .i64 k)).run Tryz.prog w=.ok (.string mb) w:=by
    intro w;rw[hmb];exact OB k hlt w
   have HMB:Hid (bs mb=words.getD k []):=by
    show _=_;rw[hmb]
   clear hmb
   by_cases heq:bs mb=bs s
   ·have h1:=Gz mb s heq
    have H:Hid (kw (bs s)=true):=by rw[Hid,<-heq,HMB.out];exact ZY k hlt
    clear heq
    go_wp2
    go_ret
    exact ⟨Eb H.out.symm,rfl⟩
   ·have h1:=Jk mb s heq
    have H:Hid (∀j,j<k+1->words.getD j []≠bs s):=by
     intro j hjk
     by_cases e:j=k
     ·subst e;rw[<-HMB.out];exact heq
     ·exact hr.out j (by omega)
    clear heq
    go_wp2
    go_round
    case rel=>exact ⟨k+1,by omega,by go_num,H⟩
    case measure=>simp[intOf];omega
  ·have H:Hid (kw (bs s)=false):=au _ (fun j hj=>hr.out j (by omega))
   go_wp2
   go_ret
   exact ⟨Eb H.out.symm,rfl⟩
def KV:Array Value:=(kindsL.map sv).toArray
theorem el (w:World):(Instr.index 251 (.agg KV) (.int .i64 0)).run Tryz.prog w=.ok (sv (kindsL.getD 0 [])) w:=by kernel_rfl
theorem ek (w:World):(Instr.index 251 (.agg KV) (.int .i64 1)).run Tryz.prog w=.ok (sv (kindsL.getD 1 [])) w:=by kernel_rfl
theorem ei (w:World):(Instr.index 251 (.agg KV) (.int .i64 2)).run Tryz.prog w=.ok (sv (kindsL.getD 2 [])) w:=by kernel_rfl
theorem eh (w:World):(Instr.index 251 (.agg KV) (.int .i64 3)).run Tryz.prog w=.ok (sv (kindsL.getD 3 [])) w:=by kernel_rfl
theorem OE (k:Nat) (hk:k<4) (w:World):(Instr.index 251 (.agg KV) (.int .i64 k)).run Tryz.prog w=.ok (sv (kindsL.getD k [])) w:=by
 match k,hk with
 | 0,_=>exact el w
 | 1,_=>exact ek w
 | 2,_=>exact ei w
 | 3,_=>exact eh w
 | k+4,h=>omega
theorem Sd (k:Nat) (h:k<4):BR (kindsL.getD k [])=k:=by
 have:∀k:Fin 4,BR (kindsL.getD k.val [])=k.val:=by decide
 exact this ⟨k,h⟩
theorem Nz (s:AW) (h:∀j,j<4->kindsL.getD j []≠s):BR s=0:=by
 unfold BR
 rw[if_neg (fun e=>h 1 (by omega) e.symm),if_neg (fun e=>h 2 (by omega) e.symm),if_neg (fun e=>h 3 (by omega) e.symm)]
theorem QI (s:ByteArray) (w:World) (ht:GI w):Calls Tryz.prog 136 #[.string s] w fun e w'=>e=.returned (.int .i64 (BR (bs s):Nat))/\w'=w:=by
 have hl:(loadVar 251 ⟨1,0,none⟩).run Tryz.prog w=.ok (.agg KV) w:=Hh 251 4 w 1 _ (by kernel_rfl) (by kernel_rfl) (by decide) ht.kinds
 clear ht
 go_enter Tryz.func136,Tryz.ntmps136
 go_wp2_with (refine Ad rfl 251 (.global 1) rfl ⟨1,0,none⟩ rfl (.agg KV) hl ?_;clear hl)
 go_loop [6] (fun i=>∃k:Nat,k≤4/\i=.int .i64 k/\Hid (∀j,j<k->kindsL.getD j []≠bs s)) (fun i=>4-(intOf i).toNat)
 case atStart=>exact ⟨0,by omega,rfl,fun j hj=>absurd hj (by omega)⟩
 case round=>
  obtain ⟨k,hk,rfl,hr⟩:=hrel
  by_cases hlt:k<4
  ·obtain ⟨mb,hmb⟩:∃mb:ByteArray,mb=⟨(kindsL.getD k []).toArray⟩:=⟨_,rfl⟩
   have hix:∀w,(Instr.index 251 (.agg KV) (.int .i64 k)).run Tryz.prog w=.ok (.string mb) w:=by
    intro w;rw[hmb];exact OE k hlt w
   have HMB:Hid (bs mb=kindsL.getD k []):=by
    show _=_;rw[hmb]
   clear hmb
   by_cases heq:bs mb=bs s
   ·have h1:=Gz mb s heq
    have H:Hid (BR (bs s)=k):=by rw[Hid,<-heq,HMB.out];exact Sd k hlt
    clear heq
    go_wp2
    go_ret
    exact ⟨B9 (by rw[H.out]),rfl⟩
   ·have h1:=Jk mb s heq
    have H:Hid (∀j,j<k+1->kindsL.getD j []≠bs s):=by
     intro j hjk
     by_cases e:j=k
     ·subst e;rw[<-HMB.out];exact heq
     ·exact hr.out j (by omega)
    clear heq
    go_wp2
    go_round
    case rel=>exact ⟨k+1,by omega,by go_num,H⟩
    case measure=>simp[intOf];omega
  ·have H:Hid (BR (bs s)=0):=Nz _ (fun j hj=>hr.out j (by omega))
   go_wp2
   go_ret
   exact ⟨B9 (by rw[H.out];rfl),rfl⟩
def LV:Array Value:=(leadsL.map sv).toArray
theorem ef (w:World):(Instr.index 344 (.agg LV) (.int .i64 0)).run Tryz.prog w=.ok (sv (leadsL.getD 0 [])) w:=by kernel_rfl
theorem ee (w:World):(Instr.index 344 (.agg LV) (.int .i64 1)).run Tryz.prog w=.ok (sv (leadsL.getD 1 [])) w:=by kernel_rfl
theorem ed (w:World):(Instr.index 344 (.agg LV) (.int .i64 2)).run Tryz.prog w=.ok (sv (leadsL.getD 2 [])) w:=by kernel_rfl
theorem OD (k:Nat) (hk:k<3) (w:World):(Instr.index 344 (.agg LV) (.int .i64 k)).run Tryz.prog w=.ok (sv (leadsL.getD k [])) w:=by
 match k,hk with
 | 0,_=>exact ef w
 | 1,_=>exact ee w
 | 2,_=>exact ed w
 | k+3,h=>omega
theorem Sb (k:Nat) (h:k<3):Ay (leadsL.getD k [])=some k:=by
 have:∀k:Fin 3,Ay (leadsL.getD k.val [])=some k.val:=by decide
 exact this ⟨k,h⟩
theorem Nv (s:AW) (h:∀j,j<3->leadsL.getD j []≠s):Ay s=none:=by
 unfold Ay
 rw[if_neg (fun e=>h 0 (by omega) e.symm),if_neg (fun e=>h 1 (by omega) e.symm),if_neg (fun e=>h 2 (by omega) e.symm)]
def GQ:Option Nat->Value
 | some k=>.tuple #[.int .i64 k,.bool true]
 | none=>.tuple #[.int .i64 0,.bool false]
theorem QF (s:ByteArray) (w:World) (ht:GI w):Calls Tryz.prog 251 #[.string s] w fun e w'=>e=.returned (GQ (Ay (bs s)))/\w'=w:=by
 have hl:(loadVar 344 ⟨3,0,none⟩).run Tryz.prog w=.ok (.agg LV) w:=Hh 344 3 w 3 _ (by kernel_rfl) (by kernel_rfl) (by decide) ht.leads
 clear ht
 go_enter Tryz.func251,Tryz.ntmps251
 go_wp2_with (refine Ad rfl 344 (.global 3) rfl ⟨3,0,none⟩ rfl (.agg LV) hl ?_;clear hl)
 go_loop [7] (fun i=>∃k:Nat,k≤3/\i=.int .i64 k/\Hid (∀j,j<k->leadsL.getD j []≠bs s)) (fun i=>3-(intOf i).toNat)
 case atStart=>exact ⟨0,by omega,rfl,fun j hj=>absurd hj (by omega)⟩
 case round=>
  obtain ⟨k,hk,rfl,hr⟩:=hrel
  by_cases hlt:k<3
  ·obtain ⟨mb,hmb⟩:∃mb:ByteArray,mb=⟨(leadsL.getD k []).toArray⟩:=⟨_,rfl⟩
   have hix:∀w,(Instr.index 344 (.agg LV) (.int .i64 k)).run Tryz.prog w=.ok (.string mb) w:=by
    intro w;rw[hmb];exact OD k hlt w
   have HMB:Hid (bs mb=leadsL.getD k []):=by
    show _=_;rw[hmb]
   clear hmb
   by_cases heq:bs mb=bs s
   ·have h1:=Gz mb s heq
    have H:Hid (Ay (bs s)=some k):=by rw[Hid,<-heq,HMB.out];exact Sb k hlt
    clear heq
    go_wp2
    go_ret2
    exact ⟨by rw[H.out];rfl,rfl⟩
   ·have h1:=Jk mb s heq
    have H:Hid (∀j,j<k+1->leadsL.getD j []≠bs s):=by
     intro j hjk
     by_cases e:j=k
     ·subst e;rw[<-HMB.out];exact heq
     ·exact hr.out j (by omega)
    clear heq
    go_wp2
    go_round
    case rel=>exact ⟨k+1,by omega,by go_num,H⟩
    case measure=>simp[intOf];omega
  ·have H:Hid (Ay (bs s)=none):=Nv _ (fun j hj=>hr.out j (by omega))
   go_wp2
   go_ret2
   exact ⟨by rw[H.out];rfl,rfl⟩
def AV:Array Value:=(aheadL.flatMap FL).toArray
theorem fK (w:World):(Instr.index 360 (.agg AV) (.int .i64 0)).run Tryz.prog w=.ok (.agg (FL (aheadL.getD 0 ([],0))).toArray) w:=by kernel_rfl
theorem fJ (w:World):(Instr.index 360 (.agg AV) (.int .i64 1)).run Tryz.prog w=.ok (.agg (FL (aheadL.getD 1 ([],0))).toArray) w:=by kernel_rfl
theorem OG (k:Nat) (hk:k<2) (w:World):(Instr.index 360 (.agg AV) (.int .i64 k)).run Tryz.prog w=.ok (.agg (FL (aheadL.getD k ([],0))).toArray) w:=by
 match k,hk with
 | 0,_=>exact fK w
 | 1,_=>exact fJ w
 | k+2,h=>omega
theorem Me (k:Nat) (h:k<2):Ab (aheadL.getD k ([],0)).1=(aheadL.getD k ([],0)).2:=by
 have:∀k:Fin 2,Ab (aheadL.getD k.val ([],0)).1=(aheadL.getD k.val ([],0)).2:=by decide
 exact this ⟨k,h⟩
theorem KK (s:AW) (h:∀j,j<2->(aheadL.getD j ([],0)).1≠s):Ab s=0:=by
 unfold Ab
 rw[if_neg (fun e=>h 0 (by omega) e.symm),if_neg (fun e=>h 1 (by omega) e.symm)]
theorem Km (s:ByteArray) (w:World) (ht:GI w):Calls Tryz.prog 281 #[.string s] w fun e w'=>e=.returned (.int .i64 (Ab (bs s):Nat))/\Below w.heap.size w w':=by
 have hl:(loadVar 360 ⟨7,0,none⟩).run Tryz.prog w=.ok (.agg AV) w:=Hh 360 4 w 7 _ (by kernel_rfl) (by kernel_rfl) (by decide) ht.ahead
 clear ht
 go_enter Tryz.func281,Tryz.ntmps281
 go_wp2_with (refine Ad rfl 360 (.global 7) rfl ⟨7,0,none⟩ rfl (.agg AV) hl ?_;clear hl)
 go_loopg [6] 2 (fun g i wr=>∃k:Nat,g=2-k/\k≤2/\i=.int .i64 k/\Hid (∀j,j<k->(aheadL.getD j ([],0)).1≠bs s)/\Below w.heap.size w wr)
 case atStart=>exact ⟨0,by omega,by omega,rfl,fun j hj=>absurd hj (by omega),Below.refl _ _⟩
 case round=>
  obtain ⟨k,rfl,hk,rfl,hr,hbw⟩:=hrel
  have hwb:=hbw.size
  by_cases hlt:k<2
  ·obtain ⟨mb,c,hmb,hc⟩:∃(mb:ByteArray) (c:Nat),mb=⟨(aheadL.getD k ([],0)).1.toArray⟩/\c=(aheadL.getD k ([],0)).2:=⟨_,_,rfl,rfl⟩
   have hix:∀w,(Instr.index 360 (.agg AV) (.int .i64 k)).run Tryz.prog w=.ok (.agg #[.string mb,.int .i64 c]) w:=by
    intro w;rw[hmb,hc];exact OG k hlt w
   have HMB:Hid (bs mb=(aheadL.getD k ([],0)).1):=by
    show _=_;rw[hmb]
   have HC:Hid (c=(aheadL.getD k ([],0)).2):=hc
   clear hmb hc
   by_cases heq:bs mb=bs s
   ·have h1:=Gz mb s heq
    have H:Hid (Ab (bs s)=c):=by rw[Hid,<-heq,HMB.out,HC.out];exact Me k hlt
    clear heq
    go_wp2
    go_ret
    exact ⟨B9 (by rw[H.out]),hbw.alloc hwb _⟩
   ·have h1:=Jk mb s heq
    have H:Hid (∀j,j<k+1->(aheadL.getD j ([],0)).1≠bs s):=by
     intro j hjk
     by_cases e:j=k
     ·subst e;rw[<-HMB.out];exact heq
     ·exact hr.out j (by omega)
    clear heq
    go_wp2
    go_roundg (2-(k+1))
    case measure=>omega
    case rel=>exact ⟨k+1,rfl,by omega,by go_num,H,hbw.alloc hwb _⟩
  ·have H:Hid (Ab (bs s)=0):=KK _ (fun j hj=>hr.out j (by omega))
   go_wp2
   go_ret
   exact ⟨B9 (by rw[H.out];rfl),hbw⟩
def BV (t:Nat):Array Value:=((betweenL.getD t []).flatMap FL).toArray
def DN (t k:Nat):AW×Nat:=(betweenL.getD t []).getD k ([],0)
theorem d9 (w:World):(Instr.index 357 (.agg (BV 0)) (.int .i64 0)).run Tryz.prog w=.ok (.agg #[sv (DN 0 0).1,.int .i64 (DN 0 0).2]) w:=by kernel_rfl
theorem dz (w:World):(Instr.index 357 (.agg (BV 0)) (.int .i64 1)).run Tryz.prog w=.ok (.agg #[sv (DN 0 1).1,.int .i64 (DN 0 1).2]) w:=by kernel_rfl
theorem dy (w:World):(Instr.index 357 (.agg (BV 0)) (.int .i64 2)).run Tryz.prog w=.ok (.agg #[sv (DN 0 2).1,.int .i64 (DN 0 2).2]) w:=by kernel_rfl
theorem dx (w:World):(Instr.index 357 (.agg (BV 0)) (.int .i64 3)).run Tryz.prog w=.ok (.agg #[sv (DN 0 3).1,.int .i64 (DN 0 3).2]) w:=by kernel_rfl
theorem dw (w:World):(Instr.index 357 (.agg (BV 1)) (.int .i64 0)).run Tryz.prog w=.ok (.agg #[sv (DN 1 0).1,.int .i64 (DN 1 0).2]) w:=by kernel_rfl
theorem dv (w:World):(Instr.index 357 (.agg (BV 1)) (.int .i64 1)).run Tryz.prog w=.ok (.agg #[sv (DN 1 1).1,.int .i64 (DN 1 1).2]) w:=by kernel_rfl
theorem dt (w:World):(Instr.index 357 (.agg (BV 1)) (.int .i64 2)).run Tryz.prog w=.ok (.agg #[sv (DN 1 2).1,.int .i64 (DN 1 2).2]) w:=by kernel_rfl
theorem dq (w:World):(Instr.index 357 (.agg (BV 1)) (.int .i64 3)).run Tryz.prog w=.ok (.agg #[sv (DN 1 3).1,.int .i64 (DN 1 3).2]) w:=by kernel_rfl
theorem dp (w:World):(Instr.index 357 (.agg (BV 2)) (.int .i64 0)).run Tryz.prog w=.ok (.agg #[sv (DN 2 0).1,.int .i64 (DN 2 0).2]) w:=by kernel_rfl
theorem dn (w:World):(Instr.index 357 (.agg (BV 2)) (.int .i64 1)).run Tryz.prog w=.ok (.agg #[sv (DN 2 1).1,.int .i64 (DN 2 1).2]) w:=by kernel_rfl
theorem dm (w:World):(Instr.index 357 (.agg (BV 2)) (.int .i64 2)).run Tryz.prog w=.ok (.agg #[sv (DN 2 2).1,.int .i64 (DN 2 2).2]) w:=by kernel_rfl
theorem dk (w:World):(Instr.index 357 (.agg (BV 2)) (.int .i64 3)).run Tryz.prog w=.ok (.agg #[sv (DN 2 3).1,.int .i64 (DN 2 3).2]) w:=by kernel_rfl
theorem dj (w:World):(Instr.index 357 (.agg (BV 3)) (.int .i64 0)).run Tryz.prog w=.ok (.agg #[sv (DN 3 0).1,.int .i64 (DN 3 0).2]) w:=by kernel_rfl
theorem di (w:World):(Instr.index 357 (.agg (BV 3)) (.int .i64 1)).run Tryz.prog w=.ok (.agg #[sv (DN 3 1).1,.int .i64 (DN 3 1).2]) w:=by kernel_rfl
theorem dh (w:World):(Instr.index 357 (.agg (BV 3)) (.int .i64 2)).run Tryz.prog w=.ok (.agg #[sv (DN 3 2).1,.int .i64 (DN 3 2).2]) w:=by kernel_rfl
theorem dg (w:World):(Instr.index 357 (.agg (BV 3)) (.int .i64 3)).run Tryz.prog w=.ok (.agg #[sv (DN 3 3).1,.int .i64 (DN 3 3).2]) w:=by kernel_rfl
theorem df (w:World):(Instr.index 357 (.agg (BV 4)) (.int .i64 0)).run Tryz.prog w=.ok (.agg #[sv (DN 4 0).1,.int .i64 (DN 4 0).2]) w:=by kernel_rfl
theorem de (w:World):(Instr.index 357 (.agg (BV 4)) (.int .i64 1)).run Tryz.prog w=.ok (.agg #[sv (DN 4 1).1,.int .i64 (DN 4 1).2]) w:=by kernel_rfl
theorem dc (w:World):(Instr.index 357 (.agg (BV 4)) (.int .i64 2)).run Tryz.prog w=.ok (.agg #[sv (DN 4 2).1,.int .i64 (DN 4 2).2]) w:=by kernel_rfl
theorem db (w:World):(Instr.index 357 (.agg (BV 4)) (.int .i64 3)).run Tryz.prog w=.ok (.agg #[sv (DN 4 3).1,.int .i64 (DN 4 3).2]) w:=by kernel_rfl
theorem Sn (t k:Nat) (ht:t<5) (hk:k<4) (w:World):(Instr.index 357 (.agg (BV t)) (.int .i64 k)).run Tryz.prog w=.ok (.agg #[sv (DN t k).1,.int .i64 (DN t k).2]) w:=by
 match t,ht,k,hk with
 | 0,_,0,_=>exact d9 w
 | 0,_,1,_=>exact dz w
 | 0,_,2,_=>exact dy w
 | 0,_,3,_=>exact dx w
 | 1,_,0,_=>exact dw w
 | 1,_,1,_=>exact dv w
 | 1,_,2,_=>exact dt w
 | 1,_,3,_=>exact dq w
 | 2,_,0,_=>exact dp w
 | 2,_,1,_=>exact dn w
 | 2,_,2,_=>exact dm w
 | 2,_,3,_=>exact dk w
 | 3,_,0,_=>exact dj w
 | 3,_,1,_=>exact di w
 | 3,_,2,_=>exact dh w
 | 3,_,3,_=>exact dg w
 | 4,_,0,_=>exact df w
 | 4,_,1,_=>exact de w
 | 4,_,2,_=>exact dc w
 | 4,_,3,_=>exact db w
 | t+5,h,_,_=>omega
 | _,_,k+4,h=>omega
theorem TL (t k:Nat) (ht:t<5) (h:k<4) (h0:(DN t k).2≠0):Co t (DN t k).1=(DN t k).2:=by
 have:∀(t:Fin 5) (k:Fin 4),(DN t.val k.val).2≠0->Co t.val (DN t.val k.val).1=(DN t.val k.val).2:=by decide
 exact this ⟨t,ht⟩ ⟨k,h⟩ h0
theorem Oa:∀(l:List (AW×Nat)) (s:AW),(∀p∈l,p.2≠0->p.1≠s)->(∀p∈l,p.2≠0)->Gh l s=0:=by
 intro l
 induction l with
 | nil=>intro s _ _;rfl
 | cons p r ih=>
  intro s h h0
  obtain ⟨t,c⟩:=p
  rw[Gh,if_neg (h (t,c) (by simp) (h0 (t,c) (by simp)))]
  exact ih s (fun p hp=>h p (by simp[hp])) (fun p hp=>h0 p (by simp[hp]))
theorem LB:∀(t:Fin 5) (p:AW×Nat),p∈signs.getD t.val []->p.2≠0:=by decide
theorem R5:∀(t:Fin 5) (p:AW×Nat),p∈signs.getD t.val []->∃k:Fin 4,p=DN t.val k.val:=by decide
theorem Ob (t:Nat) (ht:t<5) (s:AW) (h:∀k,k<4->(DN t k).2≠0->(DN t k).1≠s):Co t s=0:=by
 refine Oa _ s (fun p hp _=>?_) (LB ⟨t,ht⟩)
 obtain ⟨k,rfl⟩:=R5 ⟨t,ht⟩ p hp
 exact h k.val k.isLt (LB ⟨t,ht⟩ _ hp)
theorem SB (t:Nat) (ht:t<5):∀j v,((betweenL.getD t []).flatMap FL)[j]?=some v->(betweenL.flatMap (·.flatMap FL))[t*8+j]?=some v:=by
 intro j v hv
 have hj:j<8:=by
  have:=(List.getElem?_eq_some_iff.1 hv).1
  have e:∀t:Fin 5,((betweenL.getD t.val []).flatMap FL).length=8:=by decide
  rw[e ⟨t,ht⟩] at this;exact this
 rw[<-hv]
 match t,ht,j,hj with
 | 0,_,0,_=>rfl
 | 0,_,1,_=>rfl
 | 0,_,2,_=>rfl
 | 0,_,3,_=>rfl
 | 0,_,4,_=>rfl
 | 0,_,5,_=>rfl
 | 0,_,6,_=>rfl
 | 0,_,7,_=>rfl
 | 1,_,0,_=>rfl
 | 1,_,1,_=>rfl
 | 1,_,2,_=>rfl
 | 1,_,3,_=>rfl
 | 1,_,4,_=>rfl
 | 1,_,5,_=>rfl
 | 1,_,6,_=>rfl
 | 1,_,7,_=>rfl
 | 2,_,0,_=>rfl
 | 2,_,1,_=>rfl
 | 2,_,2,_=>rfl
 | 2,_,3,_=>rfl
 | 2,_,4,_=>rfl
 | 2,_,5,_=>rfl
 | 2,_,6,_=>rfl
 | 2,_,7,_=>rfl
 | 3,_,0,_=>rfl
 | 3,_,1,_=>rfl
 | 3,_,2,_=>rfl
 | 3,_,3,_=>rfl
 | 3,_,4,_=>rfl
 | 3,_,5,_=>rfl
 | 3,_,6,_=>rfl
 | 3,_,7,_=>rfl
 | 4,_,0,_=>rfl
 | 4,_,1,_=>rfl
 | 4,_,2,_=>rfl
 | 4,_,3,_=>rfl
 | 4,_,4,_=>rfl
 | 4,_,5,_=>rfl
 | 4,_,6,_=>rfl
 | 4,_,7,_=>rfl
 | t+5,h,_,_=>omega
 | _,_,j+8,h=>omega
theorem VD {w:World}(h:GI w) (t:Nat) (ht:t<5):(loadVar 357 ⟨6,t*8,none⟩).run Tryz.prog w=.ok (.agg (BV t)) w:=
 J8 357 8 w 6 (t*8) _ (by kernel_rfl) (by kernel_rfl) (by have e:∀t:Fin 5,((betweenL.getD t.val []).flatMap FL).length=8:=by decide
                                                                 exact e ⟨t,ht⟩) (fun j v hv=>h.between _ v (SB t ht j v hv))
theorem JF (s:ByteArray) (t:Nat) (ht5:t<5) (w:World) (ht:GI w):Calls Tryz.prog 278 #[.string s,.int .i64 t] w fun e w'=>e=.returned (.int .i64 (Co t (bs s):Nat))/\Below w.heap.size w w':=by
 have hl:=VD ht t ht5
 have hcl:∀B:List Value,B=betweenL.flatMap (·.flatMap FL)->True:=fun _ _=>trivial
 clear ht hcl
 go_enter Tryz.func278,Tryz.ntmps278
 go_wp2_with (refine Ad rfl 357 (.tmp 8) rfl ⟨6,t*8,none⟩ rfl (.agg (BV t)) hl ?_;clear hl)
 go_loopg [10] 4 (fun g i wr=>∃k:Nat,g=4-k/\k≤4/\i=.int .i64 k/\Hid (∀j,j<k->(DN t j).2≠0->(DN t j).1≠bs s)/\Below w.heap.size w wr)
 case atStart=>exact ⟨0,by omega,by omega,rfl,fun j hj=>absurd hj (by omega),Below.refl _ _⟩
 case round=>
  obtain ⟨k,rfl,hk,rfl,hr,hbw⟩:=hrel
  have hwb:=hbw.size
  by_cases hlt:k<4
  ·obtain ⟨mb,c,hmb,hc⟩:∃(mb:ByteArray) (c:Nat),mb=⟨(DN t k).1.toArray⟩/\c=(DN t k).2:=⟨_,_,rfl,rfl⟩
   have hix:∀w,(Instr.index 357 (.agg (BV t)) (.int .i64 k)).run Tryz.prog w=.ok (.agg #[.string mb,.int .i64 c]) w:=by
    intro w;rw[hmb,hc];exact Sn t k ht5 hlt w
   have HMB:Hid (bs mb=(DN t k).1):=by
    show _=_;rw[hmb]
   have HC:Hid (c=(DN t k).2):=hc
   clear hmb hc
   by_cases hc0:c=0
   ·subst hc0
    have H:Hid (∀j,j<k+1->(DN t j).2≠0->(DN t j).1≠bs s):=by
     intro j hjk
     by_cases e:j=k
     ·subst e;intro h;exact absurd HC.out.symm h
     ·exact hr.out j (by omega)
    go_wp2
    go_roundg (4-(k+1))
    case measure=>omega
    case rel=>exact ⟨k+1,rfl,by omega,by go_num,H,hbw.alloc hwb _⟩
   ·have hc1:¬(c:Int)=0:=by omega
    have hc2:((c:Int) != 0)=true:=by simpa using hc1
    by_cases heq:bs mb=bs s
    ·have h1:=Gz mb s heq
     have H:Hid (Co t (bs s)=c):=by rw[Hid,<-heq,HMB.out,HC.out];exact TL t k ht5 hlt (by rw[<-HC.out];exact hc0)
     clear heq
     go_wp2
     go_ret
     exact ⟨B9 (by rw[H.out]),hbw.alloc hwb _⟩
    ·have h1:=Jk mb s heq
     have H:Hid (∀j,j<k+1->(DN t j).2≠0->(DN t j).1≠bs s):=by
      intro j hjk
      by_cases e:j=k
      ·subst e;intro _;rw[<-HMB.out];exact heq
      ·exact hr.out j (by omega)
     clear heq
     go_wp2
     go_roundg (4-(k+1))
     case measure=>omega
     case rel=>exact ⟨k+1,rfl,by omega,by go_num,H,hbw.alloc hwb _⟩
  ·have H:Hid (Co t (bs s)=0):=Ob t ht5 _ (fun j hj=>hr.out j (by omega))
   go_wp2
   go_ret
   exact ⟨B9 (by rw[H.out];rfl),hbw⟩
end Go.Proofs.YtdeklanmddlgpaaGreatDoor
