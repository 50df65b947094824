import Derived.Test.YthieaobjdpfcoaaGreatDoorVSmall
import Derived.Shelf.LaysM
import Derived.Shelf.Strconv.Clone
import Derived.Shelf.Strings.Prefix
import Derived.Test.YthieaobjdpfcoaaGreatDoorProg
import Derived.Laws.EntriesVeiled
set_option maxRecDepth 100000
set_option maxHeartbeats 1600000
namespace Go.Proofs.YthieaobjdpfcoaaGreatDoor
section
open Go.RowKit
abbrev bs (s:ByteArray):List UInt8:=s.data.toList
theorem Cn (s:ByteArray) (k:Nat) (h:k<s.size):(bs s)[k]?=some s[k]:=by
 rw[aN3 (by simpa using h)];rfl
theorem fP (s:ByteArray):(bs s).length=s.size:=by simp
theorem fN {k:IntKind}{a b:Int}(h:a=b):Ending.returned (.int k a)=.returned (.int k b):=by rw[h]
theorem Qh (s:ByteArray) (a:Nat) (w:World) (u:s.size≤1000000) (n:a≤s.size) :
    Calls Tryz.prog 142 #[.string s,.int .i64 a,.func (.func 143) #[] #[]] w fun e w'=>e=.returned (.int .i64 (Lx.iE Lx.inl (bs s) a:Nat))/\w'=w:=by
 go_enter Tryz.func142,Tryz.ntmps142
 go_wp2
 go_loop [1] (fun i=>∃k:Nat,k≤s.size/\i=.int .i64 k/\Hid (Lx.iE Lx.inl (bs s) a=Lx.iE Lx.inl (bs s) k)) (fun i=>s.size-(intOf i).toNat)
 case atStart=>exact ⟨a,n,rfl,rfl⟩
 case round=>
  obtain ⟨k,r,rfl,h⟩:=hrel
  by_cases hlt:k<s.size
  ·have j:=Cn s k hlt
   have l:Hid _:=j
   clear j
   by_cases hp:Lx.inl s[k]=true
   ·go_wp2_with (go_at_call 143;refine (zA _ _).mono ?_;rintro e w' ⟨rfl,rfl⟩)
    go_round
    case rel=>exact ⟨k+1,by omega,by go_num,h.out.trans (Lx.uS l.out hp)⟩
    case measure=>simp[intOf];omega
   ·have c:Lx.inl s[k]=false:=by simpa using hp
    clear hp
    go_wp2_with (go_at_call 143;refine (zA _ _).mono ?_;rintro e w' ⟨rfl,rfl⟩)
    go_ret
    exact ⟨fN (by rw[h.out,Lx.yG l.out c]),rfl⟩
  ·go_wp2
   go_ret
   exact ⟨fN (by rw[h.out,Lx.uT (by rw[fP];omega)]),rfl⟩
theorem Ei (s:ByteArray) (a:Nat) (w:World) (u:s.size≤1000000) (n:a≤s.size) :
    Calls Tryz.prog 142 #[.string s,.int .i64 a,.func (.func 144) #[] #[]] w fun e w'=>e=.returned (.int .i64 (Lx.iE Lx.gV (bs s) a:Nat))/\w'=w:=by
 go_enter Tryz.func142,Tryz.ntmps142
 go_wp2
 go_loop [1] (fun i=>∃k:Nat,k≤s.size/\i=.int .i64 k/\Hid (Lx.iE Lx.gV (bs s) a=Lx.iE Lx.gV (bs s) k)) (fun i=>s.size-(intOf i).toNat)
 case atStart=>exact ⟨a,n,rfl,rfl⟩
 case round=>
  obtain ⟨k,r,rfl,h⟩:=hrel
  by_cases hlt:k<s.size
  ·have j:=Cn s k hlt
   have l:Hid _:=j
   clear j
   by_cases hp:Lx.gV s[k]=true
   ·go_wp2_with (go_at_call 144;refine (jO _ _).mono ?_;rintro e w' ⟨rfl,rfl⟩)
    go_round
    case rel=>exact ⟨k+1,by omega,by go_num,h.out.trans (Lx.uS l.out hp)⟩
    case measure=>simp[intOf];omega
   ·have c:Lx.gV s[k]=false:=by simpa using hp
    clear hp
    go_wp2_with (go_at_call 144;refine (jO _ _).mono ?_;rintro e w' ⟨rfl,rfl⟩)
    go_ret
    exact ⟨fN (by rw[h.out,Lx.yG l.out c]),rfl⟩
  ·go_wp2
   go_ret
   exact ⟨fN (by rw[h.out,Lx.uT (by rw[fP];omega)]),rfl⟩
theorem Kv (s:ByteArray) (a:Nat) (w:World) (u:s.size≤1000000) (n:a≤s.size) :
    Calls Tryz.prog 142 #[.string s,.int .i64 a,.func (.func 145) #[] #[]] w fun e w'=>e=.returned (.int .i64 (Lx.iE Lx.pH (bs s) a:Nat))/\w'=w:=by
 go_enter Tryz.func142,Tryz.ntmps142
 go_wp2
 go_loop [1] (fun i=>∃k:Nat,k≤s.size/\i=.int .i64 k/\Hid (Lx.iE Lx.pH (bs s) a=Lx.iE Lx.pH (bs s) k)) (fun i=>s.size-(intOf i).toNat)
 case atStart=>exact ⟨a,n,rfl,rfl⟩
 case round=>
  obtain ⟨k,r,rfl,h⟩:=hrel
  by_cases hlt:k<s.size
  ·have j:=Cn s k hlt
   have l:Hid _:=j
   clear j
   by_cases hp:Lx.pH s[k]=true
   ·go_wp2_with (go_at_call 145;refine (oH _ _).mono ?_;rintro e w' ⟨rfl,rfl⟩)
    go_round
    case rel=>exact ⟨k+1,by omega,by go_num,h.out.trans (Lx.uS l.out hp)⟩
    case measure=>simp[intOf];omega
   ·have c:Lx.pH s[k]=false:=by simpa using hp
    clear hp
    go_wp2_with (go_at_call 145;refine (oH _ _).mono ?_;rintro e w' ⟨rfl,rfl⟩)
    go_ret
    exact ⟨fN (by rw[h.out,Lx.yG l.out c]),rfl⟩
  ·go_wp2
   go_ret
   exact ⟨fN (by rw[h.out,Lx.uT (by rw[fP];omega)]),rfl⟩
end
section
open Go.RowKit
theorem F5 (s:ByteArray) (a:Nat) (w:World) (J:s.size≤1000000) (Q:a≤s.size) :
    Calls Tryz.prog 97 #[.string s,.int .i64 a] w fun e w'=>e=.returned (.int .i64 (Lx.fO (bs s) a:Nat))/\w'=w:=by
 go_enter Tryz.func97,Tryz.ntmps97
 go_wp2
 go_loop [1] (fun i=>∃k:Nat,k≤s.size/\i=.int .i64 k/\Hid (Lx.fO (bs s) a=Lx.fO (bs s) k)) (fun i=>s.size-(intOf i).toNat)
 case atStart=>exact ⟨a,Q,rfl,rfl⟩
 case round=>
  obtain ⟨k,U,rfl,l⟩:=hrel
  by_cases hlt:k<s.size
  ·have u:Hid _:=Cn s k hlt
   by_cases hb:Lx.tV s[k]=true
   ·go_wp2_with (go_at_call 141;refine (pY s[k] _).mono ?_;rintro e w' ⟨rfl,rfl⟩)
    go_round
    case rel=>exact ⟨k+1,by omega,by go_num,l.out.trans (Lx.J7 u.out hb)⟩
    case measure=>simp[intOf];omega
   ·have r:Lx.tV s[k]=false:=by simpa using hb
    clear hb
    by_cases c:(s[k].toNat:Int)=35
    ·have D:Hid ((bs s)[k]?=some 35):=by
      rw[Hid,u.out];congr 1;apply UInt8.toNat_inj.1;show _=35;omega
     have j:=Lx.Pt (p:=Lx.inl) (s:=bs s) (k:=k) (by rw[fP];omega)
     rw[fP] at j
     have O:=Lx.wY D.out
     have n:Hid _:=c
     clear c
     go_wp2_with (first|(go_at_call 141;refine (pY s[k] _).mono ?_;rintro e w' ⟨rfl,rfl⟩;have c:=n.out)|(go_at_call 142;refine (Qh s k _ J (by omega)).mono ?_;rintro e w' ⟨rfl,rfl⟩))
     go_round
     case rel=>exact ⟨_,j.2,rfl,l.out.trans (Lx.zY D.out)⟩
     case measure=>simp[intOf];omega
    ·have y:s[k]≠35:=fun h=>c (by rw[h];rfl)
     have I:Hid _:=y
     clear y
     go_wp2_with (first|(go_at_call 141;refine (pY s[k] _).mono ?_;rintro e w' ⟨rfl,rfl⟩))
     go_ret
     exact ⟨fN (by rw[l.out,Lx.Kk u.out r I.out]),rfl⟩
  ·go_wp2
   go_ret
   exact ⟨fN (by rw[l.out,Lx.Dw (by rw[fP];omega)]),rfl⟩
end
end Go.Proofs.YthieaobjdpfcoaaGreatDoor
namespace Go.Proofs
open Go.Shelf
def Tryz.laysM316_ren:Go.Shelf.Ren:=⟨fun|316=>147|n=>n,fun|9=>9|3=>3|4=>4|37=>262|0=>0|127=>263|5=>5|n=>n,fun|n=>n⟩
theorem Tryz.laysM316:Go.Proofs.LaysM.n316 Tryz.prog Tryz.laysM316_ren:={
 mixed:=by kernel_rfl
 f316:=Tryz.func147.trans (congrArg some (by kernel_rfl))
 t0:=Tryz.underlying0
 a0:=Tryz.isAgg0
 z0:=Tryz.sizeOf0
 v0:=Tryz.zeroValue0
 t3:=Tryz.underlying3
 a3:=Tryz.isAgg3
 z3:=Tryz.sizeOf3
 v3:=Tryz.zeroValue3
 t4:=Tryz.underlying4
 a4:=Tryz.isAgg4
 z4:=Tryz.sizeOf4
 v4:=Tryz.zeroValue4
 t9:=Tryz.underlying9
 a9:=Tryz.isAgg9
 z9:=Tryz.sizeOf9
 v9:=Tryz.zeroValue9
 t37:=Tryz.underlying262
 a37:=Tryz.isAgg262
 z37:=Tryz.sizeOf262
 v37:=Tryz.zeroValue262
 t127:=Tryz.underlying263
 a127:=Tryz.isAgg263
 z127:=Tryz.sizeOf263
 v127:=Tryz.zeroValue263
 t5:=Tryz.underlying5
 a5:=Tryz.isAgg5
 z5:=Tryz.sizeOf5
 v5:=Tryz.zeroValue5
 i0:=by kernel_rfl
 i3:=by kernel_rfl
 i4:=by kernel_rfl
 i5:=by kernel_rfl
 i9:=by kernel_rfl
 i37:=by kernel_rfl
 i127:=by kernel_rfl }
open Go.RowKit in
theorem Tryz.stringslite_Clone (s:ByteArray) (w:World) (hlim:s.size≤281474976710656) :
    Calls Tryz.prog 147 #[.string s] w fun e w'=>e=.returned (.string s)/\Below w.heap.size w w':=Any.stringslite_Clone Tryz.laysM316 s w hlim
def Tryz.lays99_ren:Go.Shelf.Ren:=⟨fun|99=>146|206=>193|n=>n,fun|9=>9|4=>4|3=>3|n=>n,fun|n=>n⟩
theorem Tryz.lays99:Go.Proofs.Lays.n99 Tryz.prog Tryz.lays99_ren:={
 mixed:=by kernel_rfl
 f99:=Tryz.func146.trans (congrArg some (by kernel_rfl))
 f206:=Tryz.func193.trans (congrArg some (by kernel_rfl))
 t3:=Tryz.underlying3
 a3:=Tryz.isAgg3
 z3:=Tryz.sizeOf3
 v3:=Tryz.zeroValue3
 t4:=Tryz.underlying4
 a4:=Tryz.isAgg4
 z4:=Tryz.sizeOf4
 v4:=Tryz.zeroValue4
 t9:=Tryz.underlying9
 a9:=Tryz.isAgg9
 z9:=Tryz.sizeOf9
 v9:=Tryz.zeroValue9 }
open Go.RowKit Go.Lib in
theorem Tryz.strings_HasPrefix (s p:ByteArray) (w:World) :
    Calls Tryz.prog 146 #[.string s,.string p] w fun e w'=>e=.returned (.bool (Lib.hasPrefix s.data.toList p.data.toList))/\w'=w:=Any.strings_HasPrefix Tryz.lays99 s p w
end Go.Proofs
namespace Go.Proofs.YthieaobjdpfcoaaGreatDoor
section
open Go.RowKit
def fV (m:List UInt8):Value:=.string ⟨m.toArray⟩
def lP (w:World):Prop:=∀i,i<21->w.cell? ⟨0,i,none⟩=some (fV (Lx.marks.getD i []))
theorem Ms (kind len n:Nat) (w:World) (s:kind≤3) (r:len≤1000000) (u:n≤600) :
    Calls Tryz.prog 99 #[.int .i64 kind,.int .i64 len,.int .i64 n] w fun e w'=>e=.returned (.int .i64 (Lx.Mn kind len n:Nat))/\w'=w:=by
 by_cases h:kind=0
 ·subst h
  go_enter Tryz.func99,Tryz.ntmps99
  go_wp2
  go_ret
  exact ⟨rfl,rfl⟩
 ·have l:((kind:Int)==0)=false:=by simp;omega
  have j:¬(kind:Int)=0:=by omega
  by_cases h4:kind=2
  ·subst h4
   by_cases h5:18<len
   ·go_enter Tryz.func99,Tryz.ntmps99
    go_wp2
    go_ret
    exact ⟨fN (by rw[Lx.Mn,if_neg (by decide),if_pos ⟨rfl,h5⟩];rfl),rfl⟩
   ·by_cases h6:600≤n
    all_goals
     go_enter Tryz.func99,Tryz.ntmps99
     go_wp2
     go_ret
     exact ⟨fN (by rw[Lx.Mn,if_neg (by decide),if_neg (fun h=>h5 h.2)];first|(rw[if_pos h6];rfl)|(rw[if_neg h6];rfl)),rfl⟩
  ·have k:((kind:Int)==2)=false:=by simp;omega
   have c:¬(kind:Int)=2:=by omega
   by_cases h6:600≤n
   all_goals
    go_enter Tryz.func99,Tryz.ntmps99
    go_wp2
    go_ret
    exact ⟨fN (by rw[Lx.Mn,if_neg h,if_neg (fun h=>h4 h.1)];first|(rw[if_pos h6];rfl)|(rw[if_neg h6];rfl)),rfl⟩
def MV:Array Value:=(Lx.marks.map fV).toArray
theorem Ez {w:World}(r:lP w):(loadVar 215 ⟨0,0,none⟩).run Tryz.prog w=.ok (.agg MV) w:=by
 have s:=run_loadCells_list (P:=Tryz.prog) w ⟨0,0,none⟩ (Lx.marks.map fV) (fun j v n=>by
  have c:(⟨0,0,none⟩:Addr).add j=⟨0,j,none⟩:=by unfold Addr.add;split<;>simp_all
  have l:j<21:=by
   have:=(aO5.1 n).1;simpa [Lx.marks] using this
  rw[c,r j l,<-n]
  simp[List.getD,Lx.marks.getElem?_eq_getElem (show j<Lx.marks.length from l)])
 have h:(isAgg 215).run Tryz.prog w=.ok true w:=by kernel_rfl
 have hsz:(sizeOf 215).run Tryz.prog w=.ok 21 w:=by kernel_rfl
 have k:(loadCells ⟨0,0,none⟩ 21).run Tryz.prog w=.ok (Lx.marks.map fV).toArray w:=s
 unfold loadVar
 rw[Sem.run_bind,h]
 simp only[Result.andThen,if_true,Sem.run_bind,hsz,k]
 rfl
theorem Tb (w:World):(Instr.index 215 (.agg MV) (.int .i64 0)).run Tryz.prog w=.ok (fV (Lx.marks.getD 0 [])) w:=by kernel_rfl
theorem Ta (w:World):(Instr.index 215 (.agg MV) (.int .i64 1)).run Tryz.prog w=.ok (fV (Lx.marks.getD 1 [])) w:=by kernel_rfl
theorem Qo (w:World):(Instr.index 215 (.agg MV) (.int .i64 2)).run Tryz.prog w=.ok (fV (Lx.marks.getD 2 [])) w:=by kernel_rfl
theorem ix3 (w:World):(Instr.index 215 (.agg MV) (.int .i64 3)).run Tryz.prog w=.ok (fV (Lx.marks.getD 3 [])) w:=by kernel_rfl
theorem Mk (w:World):(Instr.index 215 (.agg MV) (.int .i64 4)).run Tryz.prog w=.ok (fV (Lx.marks.getD 4 [])) w:=by kernel_rfl
theorem Lb (w:World):(Instr.index 215 (.agg MV) (.int .i64 5)).run Tryz.prog w=.ok (fV (Lx.marks.getD 5 [])) w:=by kernel_rfl
theorem Jf (w:World):(Instr.index 215 (.agg MV) (.int .i64 6)).run Tryz.prog w=.ok (fV (Lx.marks.getD 6 [])) w:=by kernel_rfl
theorem Gg (w:World):(Instr.index 215 (.agg MV) (.int .i64 7)).run Tryz.prog w=.ok (fV (Lx.marks.getD 7 [])) w:=by kernel_rfl
theorem Fu (w:World):(Instr.index 215 (.agg MV) (.int .i64 8)).run Tryz.prog w=.ok (fV (Lx.marks.getD 8 [])) w:=by kernel_rfl
theorem ix9 (w:World):(Instr.index 215 (.agg MV) (.int .i64 9)).run Tryz.prog w=.ok (fV (Lx.marks.getD 9 [])) w:=by kernel_rfl
theorem aT1 (w:World):(Instr.index 215 (.agg MV) (.int .i64 10)).run Tryz.prog w=.ok (fV (Lx.marks.getD 10 [])) w:=by kernel_rfl
theorem aT0 (w:World):(Instr.index 215 (.agg MV) (.int .i64 11)).run Tryz.prog w=.ok (fV (Lx.marks.getD 11 [])) w:=by kernel_rfl
theorem aS9 (w:World):(Instr.index 215 (.agg MV) (.int .i64 12)).run Tryz.prog w=.ok (fV (Lx.marks.getD 12 [])) w:=by kernel_rfl
theorem aS8 (w:World):(Instr.index 215 (.agg MV) (.int .i64 13)).run Tryz.prog w=.ok (fV (Lx.marks.getD 13 [])) w:=by kernel_rfl
theorem aS7 (w:World):(Instr.index 215 (.agg MV) (.int .i64 14)).run Tryz.prog w=.ok (fV (Lx.marks.getD 14 [])) w:=by kernel_rfl
theorem aS6 (w:World):(Instr.index 215 (.agg MV) (.int .i64 15)).run Tryz.prog w=.ok (fV (Lx.marks.getD 15 [])) w:=by kernel_rfl
theorem aS5 (w:World):(Instr.index 215 (.agg MV) (.int .i64 16)).run Tryz.prog w=.ok (fV (Lx.marks.getD 16 [])) w:=by kernel_rfl
theorem aS4 (w:World):(Instr.index 215 (.agg MV) (.int .i64 17)).run Tryz.prog w=.ok (fV (Lx.marks.getD 17 [])) w:=by kernel_rfl
theorem aS3 (w:World):(Instr.index 215 (.agg MV) (.int .i64 18)).run Tryz.prog w=.ok (fV (Lx.marks.getD 18 [])) w:=by kernel_rfl
theorem aS2 (w:World):(Instr.index 215 (.agg MV) (.int .i64 19)).run Tryz.prog w=.ok (fV (Lx.marks.getD 19 [])) w:=by kernel_rfl
theorem aS1 (w:World):(Instr.index 215 (.agg MV) (.int .i64 20)).run Tryz.prog w=.ok (fV (Lx.marks.getD 20 [])) w:=by kernel_rfl
theorem Bc (k:Nat) (c:k<21) (w:World):(Instr.index 215 (.agg MV) (.int .i64 k)).run Tryz.prog w=.ok (fV (Lx.marks.getD k [])) w:=by
 match k,c with
 | 0,_=>exact Tb w
 | 1,_=>exact Ta w
 | 2,_=>exact Qo w
 | 3,_=>exact ix3 w
 | 4,_=>exact Mk w
 | 5,_=>exact Lb w
 | 6,_=>exact Jf w
 | 7,_=>exact Gg w
 | 8,_=>exact Fu w
 | 9,_=>exact ix9 w
 | 10,_=>exact aT1 w
 | 11,_=>exact aT0 w
 | 12,_=>exact aS9 w
 | 13,_=>exact aS8 w
 | 14,_=>exact aS7 w
 | 15,_=>exact aS6 w
 | 16,_=>exact aS5 w
 | 17,_=>exact aS4 w
 | 18,_=>exact aS3 w
 | 19,_=>exact aS2 w
 | 20,_=>exact aS1 w
 | k+21,h=>omega
theorem zL (s:ByteArray) (a b:Nat):bs (s.extract a b)=((bs s).drop a).take (b-a):=by
 show (s.extract a b).data.toList=_
 rw[ByteArray.data_extract,Array.toList_extract]
theorem Yp (s:ByteArray) (a:Nat):bs (s.extract a s.size)=(bs s).drop a:=by
 rw[zL s a _,List.take_of_length_le (by simp)]
theorem tN (s c:ByteArray) (a:Nat) (b:Bool) (w:World) (h:(bs c).isPrefixOf ((bs s).drop a)=b) :
    Calls Tryz.prog 146 #[.string (s.extract a s.size),.string c] w fun e w'=>e=.returned (.bool b)/\w'=w:=by
 refine (Tryz.strings_HasPrefix (s.extract a s.size) c w).mono ?_
 rintro e w' ⟨rfl,rfl⟩
 exact ⟨by rw[<-h,<-Yp];rfl,rfl⟩
theorem Ey (k:Nat) (h:k<21):Lx.marks.drop k=Lx.marks.getD k []::Lx.marks.drop (k+1):=by
 have c:=h
 rw[aO9 c,iO,aN3 c];rfl
theorem Ll (k:Nat) (h:k<21):0<(Lx.marks.getD k []).length:=by
 have:∀k:Fin 21,0<(Lx.marks.getD k.val []).length:=by decide
 exact this ⟨k,h⟩
theorem Hq (u:List UInt8) (c:UInt8) (h:u.head?=some c) (hd:Lx.gV c=false) (j:Lx.pH c=false):Lx.rd u=if Lx.mk u=0 then (0,0) else (3,Lx.mk u):=by
 cases u with
 | nil=>simp at h
 | cons x r=>simp at h;subst h;rw[Lx.mN,hd,j];rfl
theorem G4 (s:ByteArray) (a:Nat) (h:a<s.size):((bs s).drop a).head?=some s[a]:=by
 rw[List.head?_drop];exact Cn s a h
theorem cM {ops:Array Oper}{rest:List Oper}{o:Oper}{a:Act}{w:World}{Q:Exit->Act->World->Prop}(hgd:o.guard=none) (ty:TypeId) (x:Operand) (ho:o.op=.load ty x)
    (ad:Addr) (hx:a.eval x=.pointer (some ad)) (v:Value) (hl:(loadVar ty ad).run Tryz.prog w=.ok v w) (h:wpList Tryz.prog ops Q rest (a.put o.dst v) w):wpList Tryz.prog ops Q (o::rest) a w:=
 wpList_plain hgd fun K hK=>by
  unfold Oper.wp execOp
  simp only[ho,hx,Instr.loadAt,Instr.sureAddr,Sem.run_bind,Sem.run_pure,Result.andThen_ok,hl]
  exact hK _ _ h
theorem Ks (s:ByteArray) (a:Nat) (w:World) (Z:s.size≤1000000) (U:a<s.size) (Q:lP w) (hd:Lx.gV s[a]=false) (J:Lx.pH s[a]=false) :
    Calls Tryz.prog 98 #[.string s,.int .i64 a] w fun e w'=>e=.returned (.tuple #[.int .i64 (Lx.rd ((bs s).drop a)).1,.int .i64 ((a+(Lx.rd ((bs s).drop a)).2:Nat):Int)])/\w'=w:=by
 have O:=Ez Q
 clear Q
 go_enter Tryz.func98,Tryz.ntmps98
 go_wp2_with (first|(refine cM rfl 215 (.global 0) rfl ⟨0,0,none⟩ rfl (.agg MV) O ?_;clear O)|(go_at_call 144;refine (jO s[a] _).mono ?_;rintro e w' ⟨rfl,rfl⟩)|(go_at_call 145;refine (oH s[a] _).mono ?_;rintro e w' ⟨rfl,rfl⟩))
 go_loop [25] (fun i=>∃k:Nat,k≤21/\i=.int .i64 k/\Hid (Lx.mk ((bs s).drop a)=Lx.oD (Lx.marks.drop k) ((bs s).drop a))) (fun i=>21-(intOf i).toNat)
 case atStart=>exact ⟨0,by omega,rfl,rfl⟩
 case round=>
  obtain ⟨k,hk,rfl,I⟩:=hrel
  by_cases hlt:k<21
  ·obtain ⟨c,r⟩:∃c:ByteArray,c=⟨(Lx.marks.getD k []).toArray⟩:=⟨_,rfl⟩
   have X:∀w,(Instr.index 215 (.agg MV) (.int .i64 k)).run Tryz.prog w=.ok (.string c) w:=by
    intro w;rw[r];exact Bc k hlt w
   have n:Hid (bs c=Lx.marks.getD k []):=by
    show _=_;rw[r]
   clear r
   have l:=Ll k hlt
   have hlen:c.size=(Lx.marks.getD k []).length:=by rw[<-n.out];exact (fP c).symm
   have j:=Ey k hlt
   have h:=Hq _ _ (G4 s a U) hd J
   by_cases hp:(bs c).isPrefixOf ((bs s).drop a)=true
   ·have y:Lx.mk ((bs s).drop a)=c.size:=by
     rw[I.out,j,Lx.oD,<-n.out,if_pos hp,fP]
    have Y:c.size≤s.size-a:=by
     have:=(List.isPrefixOf_iff_prefix.1 hp).length_le;rw[fP,List.length_drop,fP] at this;exact this
    have H:Hid (Lx.rd ((bs s).drop a)=(3,c.size)):=by
     show _=_;rw[h,y,if_neg (by omega)]
    clear h y j l hlen
    go_wp2_with (go_at_call 146;refine (tN s c a true _ hp).mono ?_;rintro e w' ⟨rfl,rfl⟩)
    go_ret2
    exact ⟨by rw[H.out];simp,rfl⟩
   ·have D:(bs c).isPrefixOf ((bs s).drop a)=false:=Bool.eq_false_iff.2 hp
    have H:Hid (Lx.mk ((bs s).drop a)=Lx.oD (Lx.marks.drop (k+1)) ((bs s).drop a)):=by
     show _=_;rw[I.out,j,Lx.oD,<-n.out,D];rfl
    clear h j l hlen hp
    go_wp2_with (go_at_call 146;refine (tN s c a false _ D).mono ?_;rintro e w' ⟨rfl,rfl⟩)
    go_round
    case rel=>exact ⟨k+1,by omega,by go_num,H⟩
    case measure=>simp[intOf];omega
  ·have u:k=21:=by omega
   subst u
   have h:=Hq _ _ (G4 s a U) hd J
   have H:Hid (Lx.rd ((bs s).drop a)=(0,0)):=by
    show _=_;rw[h,I.out];rfl
   clear h
   go_wp2
   go_ret2
   exact ⟨by rw[H.out];simp,rfl⟩
theorem Qa (s:ByteArray) (a:Nat) (w:World) (j:s.size≤1000000) (k:a<s.size) (l:lP w) :
    Calls Tryz.prog 98 #[.string s,.int .i64 a] w fun e w'=>e=.returned (.tuple #[.int .i64 (Lx.rd ((bs s).drop a)).1,.int .i64 ((a+(Lx.rd ((bs s).drop a)).2:Nat):Int)])/\w'=w:=by
 have c:(bs s).drop a=s[a]::(bs s).drop (a+1):=by
  rw[aO9 (by rw[fP];exact k)];rfl
 by_cases hd:Lx.gV s[a]=true
 ·have H:Hid (Lx.rd ((bs s).drop a)=(2,Lx.wh Lx.gV ((bs s).drop a))):=by
   show _=_;rw[c,Lx.mN,if_pos hd]
  clear c
  go_enter Tryz.func98,Tryz.ntmps98
  go_wp2_with (first|(go_at_call 144;refine (jO s[a] _).mono ?_;rintro e w' ⟨rfl,rfl⟩)|(go_at_call 142;refine (Ei s a _ j (by omega)).mono ?_;rintro e w' ⟨rfl,rfl⟩))
  go_ret2
  exact ⟨by rw[H.out];rfl,rfl⟩
 ·have h:Lx.gV s[a]=false:=by simpa using hd
  by_cases hw:Lx.pH s[a]=true
  ·have H:Hid (Lx.rd ((bs s).drop a)=(1,Lx.wh Lx.pH ((bs s).drop a))):=by
    show _=_;rw[c,Lx.mN,if_neg hd,if_pos hw]
   clear c hd
   go_enter Tryz.func98,Tryz.ntmps98
   go_wp2_with (first|(go_at_call 144;refine (jO s[a] _).mono ?_;rintro e w' ⟨rfl,rfl⟩)|(go_at_call 145;refine (oH s[a] _).mono ?_;rintro e w' ⟨rfl,rfl⟩)|(go_at_call 142;refine (Kv s a _ j (by omega)).mono ?_;rintro e w' ⟨rfl,rfl⟩))
   go_ret2
   exact ⟨by rw[H.out];rfl,rfl⟩
  ·exact Ks s a w j k l h (by simpa using hw)
end
end Go.Proofs.YthieaobjdpfcoaaGreatDoor
