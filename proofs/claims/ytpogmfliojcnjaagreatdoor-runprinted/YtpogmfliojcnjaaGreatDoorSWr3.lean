import Derived.Test.YtpogmfliojcnjaaGreatDoorSWr2
namespace Go.Proofs.YtpogmfliojcnjaaGreatDoor
open Go.RowKit Go.Lib Px
def BBV:Array Value:=(betweenL.flatMap (·.flatMap signC)).toArray
set_option maxRecDepth 100000 in
set_option maxHeartbeats 1000000 in
theorem signAhead_any (c:Nat) (w:World) (ht:Tabs w):Calls Tryz.prog 212 #[.int .i64 c] w fun e w'=>e=.returned (.string ⟨(aheadT c).toArray⟩)/\Below w.heap.size w w':=by
 have hl:(loadVar 298 ⟨7,0,none⟩).run Tryz.prog w=.ok (.agg AV) w:=load_tab 298 4 w 7 _ (by kernel_rfl) (by kernel_rfl) (by decide) ht.ahead
 have i0:∀w,(Instr.index 298 (.agg AV) (.int .i64 0)).run Tryz.prog w=.ok (.agg #[.string ⟨#[45]⟩,.int .i64 4]) w:=ax0
 have i1:∀w,(Instr.index 298 (.agg AV) (.int .i64 1)).run Tryz.prog w=.ok (.agg #[.string ⟨#[33]⟩,.int .i64 5]) w:=ax1
 clear ht
 by_cases h4:c=4
 ·subst h4
  go_enter Tryz.func212,Tryz.ntmps212
  go_wp2_with (refine wpList_load_eq rfl 298 (.global 7) rfl ⟨7,0,none⟩ rfl (.agg AV) hl ?_;clear hl)
  refine wp_loop_rounds 1 ?_
  rw[rounds_succ]
  go_wp2_with fail
  go_ret
  exact ⟨rfl,(Below.refl _ _).alloc (Nat.le_refl _) _⟩
 ·have n4:¬(4:Int)=(c:Int):=by omega
  by_cases h5:c=5
  ·subst h5
   go_enter Tryz.func212,Tryz.ntmps212
   go_wp2_with (refine wpList_load_eq rfl 298 (.global 7) rfl ⟨7,0,none⟩ rfl (.agg AV) hl ?_;clear hl)
   refine wp_loop_rounds 2 ?_
   rw[rounds_succ]
   go_wp2_with fail
   rw[rounds_succ]
   go_wp2_with fail
   go_ret
   exact ⟨rfl,((Below.refl _ _).alloc (Nat.le_refl _) _).alloc (by simp) _⟩
  ·have n5:¬(5:Int)=(c:Int):=by omega
   have H:Hid (aheadT c=[]):=by rw[Hid,aheadT,if_neg h4,if_neg h5]
   go_enter Tryz.func212,Tryz.ntmps212
   go_wp2_with (refine wpList_load_eq rfl 298 (.global 7) rfl ⟨7,0,none⟩ rfl (.agg AV) hl ?_;clear hl)
   refine wp_loop_rounds 3 ?_
   rw[rounds_succ]
   go_wp2_with fail
   rw[rounds_succ]
   go_wp2_with fail
   rw[rounds_succ]
   go_wp2_with fail
   go_ret
   exact ⟨by rw[H.out];rfl,((Below.refl _ _).alloc (Nat.le_refl _) _).alloc (by simp) _⟩
theorem load_all {w:World}(h:Tabs w):(loadVar 300 ⟨8,0,none⟩).run Tryz.prog w=.ok (.agg BBV) w:=load_tab 300 40 w 8 _ (by kernel_rfl) (by kernel_rfl) (by decide) h.between
theorem bb0 (w:World):(Instr.index 300 (.agg BBV) (.int .i64 0)).run Tryz.prog w=.ok (.agg #[.string ⟨#[124,124]⟩,.int .i64 16,.string ⟨#[]⟩,.int .i64 0,.string ⟨#[]⟩,.int .i64 0,.string ⟨#[]⟩,.int .i64 0]) w:=by kernel_rfl
theorem by00 (w:World):(Instr.index 299 (.agg #[.string ⟨#[124,124]⟩,.int .i64 16,.string ⟨#[]⟩,.int .i64 0,.string ⟨#[]⟩,.int .i64 0,.string ⟨#[]⟩,.int .i64 0]) (.int .i64 0)).run Tryz.prog w=.ok (.agg #[.string ⟨#[124,124]⟩,.int .i64 16]) w:=by kernel_rfl
theorem by01 (w:World):(Instr.index 299 (.agg #[.string ⟨#[124,124]⟩,.int .i64 16,.string ⟨#[]⟩,.int .i64 0,.string ⟨#[]⟩,.int .i64 0,.string ⟨#[]⟩,.int .i64 0]) (.int .i64 1)).run Tryz.prog w=.ok (.agg #[.string ⟨#[]⟩,.int .i64 0]) w:=by kernel_rfl
theorem by02 (w:World):(Instr.index 299 (.agg #[.string ⟨#[124,124]⟩,.int .i64 16,.string ⟨#[]⟩,.int .i64 0,.string ⟨#[]⟩,.int .i64 0,.string ⟨#[]⟩,.int .i64 0]) (.int .i64 2)).run Tryz.prog w=.ok (.agg #[.string ⟨#[]⟩,.int .i64 0]) w:=by kernel_rfl
theorem by03 (w:World):(Instr.index 299 (.agg #[.string ⟨#[124,124]⟩,.int .i64 16,.string ⟨#[]⟩,.int .i64 0,.string ⟨#[]⟩,.int .i64 0,.string ⟨#[]⟩,.int .i64 0]) (.int .i64 3)).run Tryz.prog w=.ok (.agg #[.string ⟨#[]⟩,.int .i64 0]) w:=by kernel_rfl
theorem bb1 (w:World):(Instr.index 300 (.agg BBV) (.int .i64 1)).run Tryz.prog w=.ok (.agg #[.string ⟨#[38,38]⟩,.int .i64 15,.string ⟨#[]⟩,.int .i64 0,.string ⟨#[]⟩,.int .i64 0,.string ⟨#[]⟩,.int .i64 0]) w:=by kernel_rfl
theorem by10 (w:World):(Instr.index 299 (.agg #[.string ⟨#[38,38]⟩,.int .i64 15,.string ⟨#[]⟩,.int .i64 0,.string ⟨#[]⟩,.int .i64 0,.string ⟨#[]⟩,.int .i64 0]) (.int .i64 0)).run Tryz.prog w=.ok (.agg #[.string ⟨#[38,38]⟩,.int .i64 15]) w:=by kernel_rfl
theorem by11 (w:World):(Instr.index 299 (.agg #[.string ⟨#[38,38]⟩,.int .i64 15,.string ⟨#[]⟩,.int .i64 0,.string ⟨#[]⟩,.int .i64 0,.string ⟨#[]⟩,.int .i64 0]) (.int .i64 1)).run Tryz.prog w=.ok (.agg #[.string ⟨#[]⟩,.int .i64 0]) w:=by kernel_rfl
theorem by12 (w:World):(Instr.index 299 (.agg #[.string ⟨#[38,38]⟩,.int .i64 15,.string ⟨#[]⟩,.int .i64 0,.string ⟨#[]⟩,.int .i64 0,.string ⟨#[]⟩,.int .i64 0]) (.int .i64 2)).run Tryz.prog w=.ok (.agg #[.string ⟨#[]⟩,.int .i64 0]) w:=by kernel_rfl
theorem by13 (w:World):(Instr.index 299 (.agg #[.string ⟨#[38,38]⟩,.int .i64 15,.string ⟨#[]⟩,.int .i64 0,.string ⟨#[]⟩,.int .i64 0,.string ⟨#[]⟩,.int .i64 0]) (.int .i64 3)).run Tryz.prog w=.ok (.agg #[.string ⟨#[]⟩,.int .i64 0]) w:=by kernel_rfl
theorem bb2 (w:World):(Instr.index 300 (.agg BBV) (.int .i64 2)).run Tryz.prog w=.ok (.agg #[.string ⟨#[61,61]⟩,.int .i64 11,.string ⟨#[33,61]⟩,.int .i64 12,.string ⟨#[60]⟩,.int .i64 13,.string ⟨#[60,61]⟩,.int .i64 14]) w:=by kernel_rfl
theorem by20 (w:World):(Instr.index 299 (.agg #[.string ⟨#[61,61]⟩,.int .i64 11,.string ⟨#[33,61]⟩,.int .i64 12,.string ⟨#[60]⟩,.int .i64 13,.string ⟨#[60,61]⟩,.int .i64 14]) (.int .i64 0)).run Tryz.prog w=.ok (.agg #[.string ⟨#[61,61]⟩,.int .i64 11]) w:=by kernel_rfl
theorem by21 (w:World):(Instr.index 299 (.agg #[.string ⟨#[61,61]⟩,.int .i64 11,.string ⟨#[33,61]⟩,.int .i64 12,.string ⟨#[60]⟩,.int .i64 13,.string ⟨#[60,61]⟩,.int .i64 14]) (.int .i64 1)).run Tryz.prog w=.ok (.agg #[.string ⟨#[33,61]⟩,.int .i64 12]) w:=by kernel_rfl
theorem by22 (w:World):(Instr.index 299 (.agg #[.string ⟨#[61,61]⟩,.int .i64 11,.string ⟨#[33,61]⟩,.int .i64 12,.string ⟨#[60]⟩,.int .i64 13,.string ⟨#[60,61]⟩,.int .i64 14]) (.int .i64 2)).run Tryz.prog w=.ok (.agg #[.string ⟨#[60]⟩,.int .i64 13]) w:=by kernel_rfl
theorem by23 (w:World):(Instr.index 299 (.agg #[.string ⟨#[61,61]⟩,.int .i64 11,.string ⟨#[33,61]⟩,.int .i64 12,.string ⟨#[60]⟩,.int .i64 13,.string ⟨#[60,61]⟩,.int .i64 14]) (.int .i64 3)).run Tryz.prog w=.ok (.agg #[.string ⟨#[60,61]⟩,.int .i64 14]) w:=by kernel_rfl
theorem bb3 (w:World):(Instr.index 300 (.agg BBV) (.int .i64 3)).run Tryz.prog w=.ok (.agg #[.string ⟨#[43]⟩,.int .i64 6,.string ⟨#[45]⟩,.int .i64 7,.string ⟨#[]⟩,.int .i64 0,.string ⟨#[]⟩,.int .i64 0]) w:=by kernel_rfl
theorem by30 (w:World):(Instr.index 299 (.agg #[.string ⟨#[43]⟩,.int .i64 6,.string ⟨#[45]⟩,.int .i64 7,.string ⟨#[]⟩,.int .i64 0,.string ⟨#[]⟩,.int .i64 0]) (.int .i64 0)).run Tryz.prog w=.ok (.agg #[.string ⟨#[43]⟩,.int .i64 6]) w:=by kernel_rfl
theorem by31 (w:World):(Instr.index 299 (.agg #[.string ⟨#[43]⟩,.int .i64 6,.string ⟨#[45]⟩,.int .i64 7,.string ⟨#[]⟩,.int .i64 0,.string ⟨#[]⟩,.int .i64 0]) (.int .i64 1)).run Tryz.prog w=.ok (.agg #[.string ⟨#[45]⟩,.int .i64 7]) w:=by kernel_rfl
theorem by32 (w:World):(Instr.index 299 (.agg #[.string ⟨#[43]⟩,.int .i64 6,.string ⟨#[45]⟩,.int .i64 7,.string ⟨#[]⟩,.int .i64 0,.string ⟨#[]⟩,.int .i64 0]) (.int .i64 2)).run Tryz.prog w=.ok (.agg #[.string ⟨#[]⟩,.int .i64 0]) w:=by kernel_rfl
theorem by33 (w:World):(Instr.index 299 (.agg #[.string ⟨#[43]⟩,.int .i64 6,.string ⟨#[45]⟩,.int .i64 7,.string ⟨#[]⟩,.int .i64 0,.string ⟨#[]⟩,.int .i64 0]) (.int .i64 3)).run Tryz.prog w=.ok (.agg #[.string ⟨#[]⟩,.int .i64 0]) w:=by kernel_rfl
theorem bb4 (w:World):(Instr.index 300 (.agg BBV) (.int .i64 4)).run Tryz.prog w=.ok (.agg #[.string ⟨#[42]⟩,.int .i64 8,.string ⟨#[47]⟩,.int .i64 9,.string ⟨#[37]⟩,.int .i64 10,.string ⟨#[]⟩,.int .i64 0]) w:=by kernel_rfl
theorem by40 (w:World):(Instr.index 299 (.agg #[.string ⟨#[42]⟩,.int .i64 8,.string ⟨#[47]⟩,.int .i64 9,.string ⟨#[37]⟩,.int .i64 10,.string ⟨#[]⟩,.int .i64 0]) (.int .i64 0)).run Tryz.prog w=.ok (.agg #[.string ⟨#[42]⟩,.int .i64 8]) w:=by kernel_rfl
theorem by41 (w:World):(Instr.index 299 (.agg #[.string ⟨#[42]⟩,.int .i64 8,.string ⟨#[47]⟩,.int .i64 9,.string ⟨#[37]⟩,.int .i64 10,.string ⟨#[]⟩,.int .i64 0]) (.int .i64 1)).run Tryz.prog w=.ok (.agg #[.string ⟨#[47]⟩,.int .i64 9]) w:=by kernel_rfl
theorem by42 (w:World):(Instr.index 299 (.agg #[.string ⟨#[42]⟩,.int .i64 8,.string ⟨#[47]⟩,.int .i64 9,.string ⟨#[37]⟩,.int .i64 10,.string ⟨#[]⟩,.int .i64 0]) (.int .i64 2)).run Tryz.prog w=.ok (.agg #[.string ⟨#[37]⟩,.int .i64 10]) w:=by kernel_rfl
set_option maxRecDepth 100000 in
set_option maxHeartbeats 2000000 in
theorem signBetween_6 (w:World) (ht:Tabs w):Calls Tryz.prog 213 #[.int .i64 6] w fun e w'=>e=.returned (.tuple #[.string ⟨#[43]⟩,.int .i64 3])/\Below w.heap.size w w':=by
 have hl:=load_all ht
 clear ht
 go_enter Tryz.func213,Tryz.ntmps213
 go_wp2_with (refine wpList_load_eq rfl 300 (.global 8) rfl ⟨8,0,none⟩ rfl (.agg BBV) hl ?_;clear hl)
 go_loopg [9] 6 (fun f i wr=>∃k:Nat,f=6-k/\k≤3/\i=.int .i64 k/\Below w.heap.size w wr)
 case atStart=>exact ⟨0,by omega,by omega,rfl,Below.refl _ _⟩
 case round=>
  obtain ⟨k,rfl,hk,rfl,hb⟩:=hrel
  have hz:=hb.size
  have hcases:k=0\/k=1\/k=2\/k=3:=by omega
  rcases hcases with rfl|rfl|rfl|rfl
  ·have e0:=bb0
   have e1:=by00
   have e2:=by01
   have e3:=by02
   have e4:=by03
   go_wp2_with fail
   refine wp_loop_rounds 5 ?_
   rw[rounds_succ]
   go_wp2_with fail
   rw[rounds_succ]
   go_wp2_with fail
   rw[rounds_succ]
   go_wp2_with fail
   rw[rounds_succ]
   go_wp2_with fail
   rw[rounds_succ]
   go_wp2_with fail
   go_roundg (6-(0+1))
   case measure=>omega
   case rel=>exact ⟨0+1,rfl,by omega,by go_num,(((((hb.alloc hz _).alloc (by simp;omega) _).alloc (by simp;omega) _).alloc (by simp;omega) _).alloc (by simp;omega) _)⟩
  ·have e0:=bb1
   have e1:=by10
   have e2:=by11
   have e3:=by12
   have e4:=by13
   go_wp2_with fail
   refine wp_loop_rounds 5 ?_
   rw[rounds_succ]
   go_wp2_with fail
   rw[rounds_succ]
   go_wp2_with fail
   rw[rounds_succ]
   go_wp2_with fail
   rw[rounds_succ]
   go_wp2_with fail
   rw[rounds_succ]
   go_wp2_with fail
   go_roundg (6-(1+1))
   case measure=>omega
   case rel=>exact ⟨1+1,rfl,by omega,by go_num,(((((hb.alloc hz _).alloc (by simp;omega) _).alloc (by simp;omega) _).alloc (by simp;omega) _).alloc (by simp;omega) _)⟩
  ·have e0:=bb2
   have e1:=by20
   have e2:=by21
   have e3:=by22
   have e4:=by23
   go_wp2_with fail
   refine wp_loop_rounds 5 ?_
   rw[rounds_succ]
   go_wp2_with fail
   rw[rounds_succ]
   go_wp2_with fail
   rw[rounds_succ]
   go_wp2_with fail
   rw[rounds_succ]
   go_wp2_with fail
   rw[rounds_succ]
   go_wp2_with fail
   go_roundg (6-(2+1))
   case measure=>omega
   case rel=>exact ⟨2+1,rfl,by omega,by go_num,(((((hb.alloc hz _).alloc (by simp;omega) _).alloc (by simp;omega) _).alloc (by simp;omega) _).alloc (by simp;omega) _)⟩
  ·have e0:=bb3
   have e1:=by30
   go_wp2_with fail
   refine wp_loop_rounds 1 ?_
   rw[rounds_succ]
   go_wp2_with fail
   go_ret2
   exact ⟨rfl,((hb.alloc hz _).alloc (by simp;omega) _)⟩
set_option maxRecDepth 100000 in
set_option maxHeartbeats 2000000 in
theorem signBetween_7 (w:World) (ht:Tabs w):Calls Tryz.prog 213 #[.int .i64 7] w fun e w'=>e=.returned (.tuple #[.string ⟨#[45]⟩,.int .i64 3])/\Below w.heap.size w w':=by
 have hl:=load_all ht
 clear ht
 go_enter Tryz.func213,Tryz.ntmps213
 go_wp2_with (refine wpList_load_eq rfl 300 (.global 8) rfl ⟨8,0,none⟩ rfl (.agg BBV) hl ?_;clear hl)
 go_loopg [9] 6 (fun f i wr=>∃k:Nat,f=6-k/\k≤3/\i=.int .i64 k/\Below w.heap.size w wr)
 case atStart=>exact ⟨0,by omega,by omega,rfl,Below.refl _ _⟩
 case round=>
  obtain ⟨k,rfl,hk,rfl,hb⟩:=hrel
  have hz:=hb.size
  have hcases:k=0\/k=1\/k=2\/k=3:=by omega
  rcases hcases with rfl|rfl|rfl|rfl
  ·have e0:=bb0
   have e1:=by00
   have e2:=by01
   have e3:=by02
   have e4:=by03
   go_wp2_with fail
   refine wp_loop_rounds 5 ?_
   rw[rounds_succ]
   go_wp2_with fail
   rw[rounds_succ]
   go_wp2_with fail
   rw[rounds_succ]
   go_wp2_with fail
   rw[rounds_succ]
   go_wp2_with fail
   rw[rounds_succ]
   go_wp2_with fail
   go_roundg (6-(0+1))
   case measure=>omega
   case rel=>exact ⟨0+1,rfl,by omega,by go_num,(((((hb.alloc hz _).alloc (by simp;omega) _).alloc (by simp;omega) _).alloc (by simp;omega) _).alloc (by simp;omega) _)⟩
  ·have e0:=bb1
   have e1:=by10
   have e2:=by11
   have e3:=by12
   have e4:=by13
   go_wp2_with fail
   refine wp_loop_rounds 5 ?_
   rw[rounds_succ]
   go_wp2_with fail
   rw[rounds_succ]
   go_wp2_with fail
   rw[rounds_succ]
   go_wp2_with fail
   rw[rounds_succ]
   go_wp2_with fail
   rw[rounds_succ]
   go_wp2_with fail
   go_roundg (6-(1+1))
   case measure=>omega
   case rel=>exact ⟨1+1,rfl,by omega,by go_num,(((((hb.alloc hz _).alloc (by simp;omega) _).alloc (by simp;omega) _).alloc (by simp;omega) _).alloc (by simp;omega) _)⟩
  ·have e0:=bb2
   have e1:=by20
   have e2:=by21
   have e3:=by22
   have e4:=by23
   go_wp2_with fail
   refine wp_loop_rounds 5 ?_
   rw[rounds_succ]
   go_wp2_with fail
   rw[rounds_succ]
   go_wp2_with fail
   rw[rounds_succ]
   go_wp2_with fail
   rw[rounds_succ]
   go_wp2_with fail
   rw[rounds_succ]
   go_wp2_with fail
   go_roundg (6-(2+1))
   case measure=>omega
   case rel=>exact ⟨2+1,rfl,by omega,by go_num,(((((hb.alloc hz _).alloc (by simp;omega) _).alloc (by simp;omega) _).alloc (by simp;omega) _).alloc (by simp;omega) _)⟩
  ·have e0:=bb3
   have e1:=by30
   have e2:=by31
   go_wp2_with fail
   refine wp_loop_rounds 2 ?_
   rw[rounds_succ]
   go_wp2_with fail
   rw[rounds_succ]
   go_wp2_with fail
   go_ret2
   exact ⟨rfl,(((hb.alloc hz _).alloc (by simp;omega) _).alloc (by simp;omega) _)⟩
set_option maxRecDepth 100000 in
set_option maxHeartbeats 2000000 in
theorem signBetween_8 (w:World) (ht:Tabs w):Calls Tryz.prog 213 #[.int .i64 8] w fun e w'=>e=.returned (.tuple #[.string ⟨#[42]⟩,.int .i64 4])/\Below w.heap.size w w':=by
 have hl:=load_all ht
 clear ht
 go_enter Tryz.func213,Tryz.ntmps213
 go_wp2_with (refine wpList_load_eq rfl 300 (.global 8) rfl ⟨8,0,none⟩ rfl (.agg BBV) hl ?_;clear hl)
 go_loopg [9] 6 (fun f i wr=>∃k:Nat,f=6-k/\k≤4/\i=.int .i64 k/\Below w.heap.size w wr)
 case atStart=>exact ⟨0,by omega,by omega,rfl,Below.refl _ _⟩
 case round=>
  obtain ⟨k,rfl,hk,rfl,hb⟩:=hrel
  have hz:=hb.size
  have hcases:k=0\/k=1\/k=2\/k=3\/k=4:=by omega
  rcases hcases with rfl|rfl|rfl|rfl|rfl
  ·have e0:=bb0
   have e1:=by00
   have e2:=by01
   have e3:=by02
   have e4:=by03
   go_wp2_with fail
   refine wp_loop_rounds 5 ?_
   rw[rounds_succ]
   go_wp2_with fail
   rw[rounds_succ]
   go_wp2_with fail
   rw[rounds_succ]
   go_wp2_with fail
   rw[rounds_succ]
   go_wp2_with fail
   rw[rounds_succ]
   go_wp2_with fail
   go_roundg (6-(0+1))
   case measure=>omega
   case rel=>exact ⟨0+1,rfl,by omega,by go_num,(((((hb.alloc hz _).alloc (by simp;omega) _).alloc (by simp;omega) _).alloc (by simp;omega) _).alloc (by simp;omega) _)⟩
  ·have e0:=bb1
   have e1:=by10
   have e2:=by11
   have e3:=by12
   have e4:=by13
   go_wp2_with fail
   refine wp_loop_rounds 5 ?_
   rw[rounds_succ]
   go_wp2_with fail
   rw[rounds_succ]
   go_wp2_with fail
   rw[rounds_succ]
   go_wp2_with fail
   rw[rounds_succ]
   go_wp2_with fail
   rw[rounds_succ]
   go_wp2_with fail
   go_roundg (6-(1+1))
   case measure=>omega
   case rel=>exact ⟨1+1,rfl,by omega,by go_num,(((((hb.alloc hz _).alloc (by simp;omega) _).alloc (by simp;omega) _).alloc (by simp;omega) _).alloc (by simp;omega) _)⟩
  ·have e0:=bb2
   have e1:=by20
   have e2:=by21
   have e3:=by22
   have e4:=by23
   go_wp2_with fail
   refine wp_loop_rounds 5 ?_
   rw[rounds_succ]
   go_wp2_with fail
   rw[rounds_succ]
   go_wp2_with fail
   rw[rounds_succ]
   go_wp2_with fail
   rw[rounds_succ]
   go_wp2_with fail
   rw[rounds_succ]
   go_wp2_with fail
   go_roundg (6-(2+1))
   case measure=>omega
   case rel=>exact ⟨2+1,rfl,by omega,by go_num,(((((hb.alloc hz _).alloc (by simp;omega) _).alloc (by simp;omega) _).alloc (by simp;omega) _).alloc (by simp;omega) _)⟩
  ·have e0:=bb3
   have e1:=by30
   have e2:=by31
   have e3:=by32
   have e4:=by33
   go_wp2_with fail
   refine wp_loop_rounds 5 ?_
   rw[rounds_succ]
   go_wp2_with fail
   rw[rounds_succ]
   go_wp2_with fail
   rw[rounds_succ]
   go_wp2_with fail
   rw[rounds_succ]
   go_wp2_with fail
   rw[rounds_succ]
   go_wp2_with fail
   go_roundg (6-(3+1))
   case measure=>omega
   case rel=>exact ⟨3+1,rfl,by omega,by go_num,(((((hb.alloc hz _).alloc (by simp;omega) _).alloc (by simp;omega) _).alloc (by simp;omega) _).alloc (by simp;omega) _)⟩
  ·have e0:=bb4
   have e1:=by40
   go_wp2_with fail
   refine wp_loop_rounds 1 ?_
   rw[rounds_succ]
   go_wp2_with fail
   go_ret2
   exact ⟨rfl,((hb.alloc hz _).alloc (by simp;omega) _)⟩
set_option maxRecDepth 100000 in
set_option maxHeartbeats 2000000 in
theorem signBetween_9 (w:World) (ht:Tabs w):Calls Tryz.prog 213 #[.int .i64 9] w fun e w'=>e=.returned (.tuple #[.string ⟨#[47]⟩,.int .i64 4])/\Below w.heap.size w w':=by
 have hl:=load_all ht
 clear ht
 go_enter Tryz.func213,Tryz.ntmps213
 go_wp2_with (refine wpList_load_eq rfl 300 (.global 8) rfl ⟨8,0,none⟩ rfl (.agg BBV) hl ?_;clear hl)
 go_loopg [9] 6 (fun f i wr=>∃k:Nat,f=6-k/\k≤4/\i=.int .i64 k/\Below w.heap.size w wr)
 case atStart=>exact ⟨0,by omega,by omega,rfl,Below.refl _ _⟩
 case round=>
  obtain ⟨k,rfl,hk,rfl,hb⟩:=hrel
  have hz:=hb.size
  have hcases:k=0\/k=1\/k=2\/k=3\/k=4:=by omega
  rcases hcases with rfl|rfl|rfl|rfl|rfl
  ·have e0:=bb0
   have e1:=by00
   have e2:=by01
   have e3:=by02
   have e4:=by03
   go_wp2_with fail
   refine wp_loop_rounds 5 ?_
   rw[rounds_succ]
   go_wp2_with fail
   rw[rounds_succ]
   go_wp2_with fail
   rw[rounds_succ]
   go_wp2_with fail
   rw[rounds_succ]
   go_wp2_with fail
   rw[rounds_succ]
   go_wp2_with fail
   go_roundg (6-(0+1))
   case measure=>omega
   case rel=>exact ⟨0+1,rfl,by omega,by go_num,(((((hb.alloc hz _).alloc (by simp;omega) _).alloc (by simp;omega) _).alloc (by simp;omega) _).alloc (by simp;omega) _)⟩
  ·have e0:=bb1
   have e1:=by10
   have e2:=by11
   have e3:=by12
   have e4:=by13
   go_wp2_with fail
   refine wp_loop_rounds 5 ?_
   rw[rounds_succ]
   go_wp2_with fail
   rw[rounds_succ]
   go_wp2_with fail
   rw[rounds_succ]
   go_wp2_with fail
   rw[rounds_succ]
   go_wp2_with fail
   rw[rounds_succ]
   go_wp2_with fail
   go_roundg (6-(1+1))
   case measure=>omega
   case rel=>exact ⟨1+1,rfl,by omega,by go_num,(((((hb.alloc hz _).alloc (by simp;omega) _).alloc (by simp;omega) _).alloc (by simp;omega) _).alloc (by simp;omega) _)⟩
  ·have e0:=bb2
   have e1:=by20
   have e2:=by21
   have e3:=by22
   have e4:=by23
   go_wp2_with fail
   refine wp_loop_rounds 5 ?_
   rw[rounds_succ]
   go_wp2_with fail
   rw[rounds_succ]
   go_wp2_with fail
   rw[rounds_succ]
   go_wp2_with fail
   rw[rounds_succ]
   go_wp2_with fail
   rw[rounds_succ]
   go_wp2_with fail
   go_roundg (6-(2+1))
   case measure=>omega
   case rel=>exact ⟨2+1,rfl,by omega,by go_num,(((((hb.alloc hz _).alloc (by simp;omega) _).alloc (by simp;omega) _).alloc (by simp;omega) _).alloc (by simp;omega) _)⟩
  ·have e0:=bb3
   have e1:=by30
   have e2:=by31
   have e3:=by32
   have e4:=by33
   go_wp2_with fail
   refine wp_loop_rounds 5 ?_
   rw[rounds_succ]
   go_wp2_with fail
   rw[rounds_succ]
   go_wp2_with fail
   rw[rounds_succ]
   go_wp2_with fail
   rw[rounds_succ]
   go_wp2_with fail
   rw[rounds_succ]
   go_wp2_with fail
   go_roundg (6-(3+1))
   case measure=>omega
   case rel=>exact ⟨3+1,rfl,by omega,by go_num,(((((hb.alloc hz _).alloc (by simp;omega) _).alloc (by simp;omega) _).alloc (by simp;omega) _).alloc (by simp;omega) _)⟩
  ·have e0:=bb4
   have e1:=by40
   have e2:=by41
   go_wp2_with fail
   refine wp_loop_rounds 2 ?_
   rw[rounds_succ]
   go_wp2_with fail
   rw[rounds_succ]
   go_wp2_with fail
   go_ret2
   exact ⟨rfl,(((hb.alloc hz _).alloc (by simp;omega) _).alloc (by simp;omega) _)⟩
set_option maxRecDepth 100000 in
set_option maxHeartbeats 2000000 in
theorem signBetween_10 (w:World) (ht:Tabs w):Calls Tryz.prog 213 #[.int .i64 10] w fun e w'=>e=.returned (.tuple #[.string ⟨#[37]⟩,.int .i64 4])/\Below w.heap.size w w':=by
 have hl:=load_all ht
 clear ht
 go_enter Tryz.func213,Tryz.ntmps213
 go_wp2_with (refine wpList_load_eq rfl 300 (.global 8) rfl ⟨8,0,none⟩ rfl (.agg BBV) hl ?_;clear hl)
 go_loopg [9] 6 (fun f i wr=>∃k:Nat,f=6-k/\k≤4/\i=.int .i64 k/\Below w.heap.size w wr)
 case atStart=>exact ⟨0,by omega,by omega,rfl,Below.refl _ _⟩
 case round=>
  obtain ⟨k,rfl,hk,rfl,hb⟩:=hrel
  have hz:=hb.size
  have hcases:k=0\/k=1\/k=2\/k=3\/k=4:=by omega
  rcases hcases with rfl|rfl|rfl|rfl|rfl
  ·have e0:=bb0
   have e1:=by00
   have e2:=by01
   have e3:=by02
   have e4:=by03
   go_wp2_with fail
   refine wp_loop_rounds 5 ?_
   rw[rounds_succ]
   go_wp2_with fail
   rw[rounds_succ]
   go_wp2_with fail
   rw[rounds_succ]
   go_wp2_with fail
   rw[rounds_succ]
   go_wp2_with fail
   rw[rounds_succ]
   go_wp2_with fail
   go_roundg (6-(0+1))
   case measure=>omega
   case rel=>exact ⟨0+1,rfl,by omega,by go_num,(((((hb.alloc hz _).alloc (by simp;omega) _).alloc (by simp;omega) _).alloc (by simp;omega) _).alloc (by simp;omega) _)⟩
  ·have e0:=bb1
   have e1:=by10
   have e2:=by11
   have e3:=by12
   have e4:=by13
   go_wp2_with fail
   refine wp_loop_rounds 5 ?_
   rw[rounds_succ]
   go_wp2_with fail
   rw[rounds_succ]
   go_wp2_with fail
   rw[rounds_succ]
   go_wp2_with fail
   rw[rounds_succ]
   go_wp2_with fail
   rw[rounds_succ]
   go_wp2_with fail
   go_roundg (6-(1+1))
   case measure=>omega
   case rel=>exact ⟨1+1,rfl,by omega,by go_num,(((((hb.alloc hz _).alloc (by simp;omega) _).alloc (by simp;omega) _).alloc (by simp;omega) _).alloc (by simp;omega) _)⟩
  ·have e0:=bb2
   have e1:=by20
   have e2:=by21
   have e3:=by22
   have e4:=by23
   go_wp2_with fail
   refine wp_loop_rounds 5 ?_
   rw[rounds_succ]
   go_wp2_with fail
   rw[rounds_succ]
   go_wp2_with fail
   rw[rounds_succ]
   go_wp2_with fail
   rw[rounds_succ]
   go_wp2_with fail
   rw[rounds_succ]
   go_wp2_with fail
   go_roundg (6-(2+1))
   case measure=>omega
   case rel=>exact ⟨2+1,rfl,by omega,by go_num,(((((hb.alloc hz _).alloc (by simp;omega) _).alloc (by simp;omega) _).alloc (by simp;omega) _).alloc (by simp;omega) _)⟩
  ·have e0:=bb3
   have e1:=by30
   have e2:=by31
   have e3:=by32
   have e4:=by33
   go_wp2_with fail
   refine wp_loop_rounds 5 ?_
   rw[rounds_succ]
   go_wp2_with fail
   rw[rounds_succ]
   go_wp2_with fail
   rw[rounds_succ]
   go_wp2_with fail
   rw[rounds_succ]
   go_wp2_with fail
   rw[rounds_succ]
   go_wp2_with fail
   go_roundg (6-(3+1))
   case measure=>omega
   case rel=>exact ⟨3+1,rfl,by omega,by go_num,(((((hb.alloc hz _).alloc (by simp;omega) _).alloc (by simp;omega) _).alloc (by simp;omega) _).alloc (by simp;omega) _)⟩
  ·have e0:=bb4
   have e1:=by40
   have e2:=by41
   have e3:=by42
   go_wp2_with fail
   refine wp_loop_rounds 3 ?_
   rw[rounds_succ]
   go_wp2_with fail
   rw[rounds_succ]
   go_wp2_with fail
   rw[rounds_succ]
   go_wp2_with fail
   go_ret2
   exact ⟨rfl,((((hb.alloc hz _).alloc (by simp;omega) _).alloc (by simp;omega) _).alloc (by simp;omega) _)⟩
set_option maxRecDepth 100000 in
set_option maxHeartbeats 2000000 in
theorem signBetween_11 (w:World) (ht:Tabs w):Calls Tryz.prog 213 #[.int .i64 11] w fun e w'=>e=.returned (.tuple #[.string ⟨#[61,61]⟩,.int .i64 2])/\Below w.heap.size w w':=by
 have hl:=load_all ht
 clear ht
 go_enter Tryz.func213,Tryz.ntmps213
 go_wp2_with (refine wpList_load_eq rfl 300 (.global 8) rfl ⟨8,0,none⟩ rfl (.agg BBV) hl ?_;clear hl)
 go_loopg [9] 6 (fun f i wr=>∃k:Nat,f=6-k/\k≤2/\i=.int .i64 k/\Below w.heap.size w wr)
 case atStart=>exact ⟨0,by omega,by omega,rfl,Below.refl _ _⟩
 case round=>
  obtain ⟨k,rfl,hk,rfl,hb⟩:=hrel
  have hz:=hb.size
  have hcases:k=0\/k=1\/k=2:=by omega
  rcases hcases with rfl|rfl|rfl
  ·have e0:=bb0
   have e1:=by00
   have e2:=by01
   have e3:=by02
   have e4:=by03
   go_wp2_with fail
   refine wp_loop_rounds 5 ?_
   rw[rounds_succ]
   go_wp2_with fail
   rw[rounds_succ]
   go_wp2_with fail
   rw[rounds_succ]
   go_wp2_with fail
   rw[rounds_succ]
   go_wp2_with fail
   rw[rounds_succ]
   go_wp2_with fail
   go_roundg (6-(0+1))
   case measure=>omega
   case rel=>exact ⟨0+1,rfl,by omega,by go_num,(((((hb.alloc hz _).alloc (by simp;omega) _).alloc (by simp;omega) _).alloc (by simp;omega) _).alloc (by simp;omega) _)⟩
  ·have e0:=bb1
   have e1:=by10
   have e2:=by11
   have e3:=by12
   have e4:=by13
   go_wp2_with fail
   refine wp_loop_rounds 5 ?_
   rw[rounds_succ]
   go_wp2_with fail
   rw[rounds_succ]
   go_wp2_with fail
   rw[rounds_succ]
   go_wp2_with fail
   rw[rounds_succ]
   go_wp2_with fail
   rw[rounds_succ]
   go_wp2_with fail
   go_roundg (6-(1+1))
   case measure=>omega
   case rel=>exact ⟨1+1,rfl,by omega,by go_num,(((((hb.alloc hz _).alloc (by simp;omega) _).alloc (by simp;omega) _).alloc (by simp;omega) _).alloc (by simp;omega) _)⟩
  ·have e0:=bb2
   have e1:=by20
   go_wp2_with fail
   refine wp_loop_rounds 1 ?_
   rw[rounds_succ]
   go_wp2_with fail
   go_ret2
   exact ⟨rfl,((hb.alloc hz _).alloc (by simp;omega) _)⟩
set_option maxRecDepth 100000 in
set_option maxHeartbeats 2000000 in
theorem signBetween_12 (w:World) (ht:Tabs w):Calls Tryz.prog 213 #[.int .i64 12] w fun e w'=>e=.returned (.tuple #[.string ⟨#[33,61]⟩,.int .i64 2])/\Below w.heap.size w w':=by
 have hl:=load_all ht
 clear ht
 go_enter Tryz.func213,Tryz.ntmps213
 go_wp2_with (refine wpList_load_eq rfl 300 (.global 8) rfl ⟨8,0,none⟩ rfl (.agg BBV) hl ?_;clear hl)
 go_loopg [9] 6 (fun f i wr=>∃k:Nat,f=6-k/\k≤2/\i=.int .i64 k/\Below w.heap.size w wr)
 case atStart=>exact ⟨0,by omega,by omega,rfl,Below.refl _ _⟩
 case round=>
  obtain ⟨k,rfl,hk,rfl,hb⟩:=hrel
  have hz:=hb.size
  have hcases:k=0\/k=1\/k=2:=by omega
  rcases hcases with rfl|rfl|rfl
  ·have e0:=bb0
   have e1:=by00
   have e2:=by01
   have e3:=by02
   have e4:=by03
   go_wp2_with fail
   refine wp_loop_rounds 5 ?_
   rw[rounds_succ]
   go_wp2_with fail
   rw[rounds_succ]
   go_wp2_with fail
   rw[rounds_succ]
   go_wp2_with fail
   rw[rounds_succ]
   go_wp2_with fail
   rw[rounds_succ]
   go_wp2_with fail
   go_roundg (6-(0+1))
   case measure=>omega
   case rel=>exact ⟨0+1,rfl,by omega,by go_num,(((((hb.alloc hz _).alloc (by simp;omega) _).alloc (by simp;omega) _).alloc (by simp;omega) _).alloc (by simp;omega) _)⟩
  ·have e0:=bb1
   have e1:=by10
   have e2:=by11
   have e3:=by12
   have e4:=by13
   go_wp2_with fail
   refine wp_loop_rounds 5 ?_
   rw[rounds_succ]
   go_wp2_with fail
   rw[rounds_succ]
   go_wp2_with fail
   rw[rounds_succ]
   go_wp2_with fail
   rw[rounds_succ]
   go_wp2_with fail
   rw[rounds_succ]
   go_wp2_with fail
   go_roundg (6-(1+1))
   case measure=>omega
   case rel=>exact ⟨1+1,rfl,by omega,by go_num,(((((hb.alloc hz _).alloc (by simp;omega) _).alloc (by simp;omega) _).alloc (by simp;omega) _).alloc (by simp;omega) _)⟩
  ·have e0:=bb2
   have e1:=by20
   have e2:=by21
   go_wp2_with fail
   refine wp_loop_rounds 2 ?_
   rw[rounds_succ]
   go_wp2_with fail
   rw[rounds_succ]
   go_wp2_with fail
   go_ret2
   exact ⟨rfl,(((hb.alloc hz _).alloc (by simp;omega) _).alloc (by simp;omega) _)⟩
set_option maxRecDepth 100000 in
set_option maxHeartbeats 2000000 in
theorem signBetween_13 (w:World) (ht:Tabs w):Calls Tryz.prog 213 #[.int .i64 13] w fun e w'=>e=.returned (.tuple #[.string ⟨#[60]⟩,.int .i64 2])/\Below w.heap.size w w':=by
 have hl:=load_all ht
 clear ht
 go_enter Tryz.func213,Tryz.ntmps213
 go_wp2_with (refine wpList_load_eq rfl 300 (.global 8) rfl ⟨8,0,none⟩ rfl (.agg BBV) hl ?_;clear hl)
 go_loopg [9] 6 (fun f i wr=>∃k:Nat,f=6-k/\k≤2/\i=.int .i64 k/\Below w.heap.size w wr)
 case atStart=>exact ⟨0,by omega,by omega,rfl,Below.refl _ _⟩
 case round=>
  obtain ⟨k,rfl,hk,rfl,hb⟩:=hrel
  have hz:=hb.size
  have hcases:k=0\/k=1\/k=2:=by omega
  rcases hcases with rfl|rfl|rfl
  ·have e0:=bb0
   have e1:=by00
   have e2:=by01
   have e3:=by02
   have e4:=by03
   go_wp2_with fail
   refine wp_loop_rounds 5 ?_
   rw[rounds_succ]
   go_wp2_with fail
   rw[rounds_succ]
   go_wp2_with fail
   rw[rounds_succ]
   go_wp2_with fail
   rw[rounds_succ]
   go_wp2_with fail
   rw[rounds_succ]
   go_wp2_with fail
   go_roundg (6-(0+1))
   case measure=>omega
   case rel=>exact ⟨0+1,rfl,by omega,by go_num,(((((hb.alloc hz _).alloc (by simp;omega) _).alloc (by simp;omega) _).alloc (by simp;omega) _).alloc (by simp;omega) _)⟩
  ·have e0:=bb1
   have e1:=by10
   have e2:=by11
   have e3:=by12
   have e4:=by13
   go_wp2_with fail
   refine wp_loop_rounds 5 ?_
   rw[rounds_succ]
   go_wp2_with fail
   rw[rounds_succ]
   go_wp2_with fail
   rw[rounds_succ]
   go_wp2_with fail
   rw[rounds_succ]
   go_wp2_with fail
   rw[rounds_succ]
   go_wp2_with fail
   go_roundg (6-(1+1))
   case measure=>omega
   case rel=>exact ⟨1+1,rfl,by omega,by go_num,(((((hb.alloc hz _).alloc (by simp;omega) _).alloc (by simp;omega) _).alloc (by simp;omega) _).alloc (by simp;omega) _)⟩
  ·have e0:=bb2
   have e1:=by20
   have e2:=by21
   have e3:=by22
   go_wp2_with fail
   refine wp_loop_rounds 3 ?_
   rw[rounds_succ]
   go_wp2_with fail
   rw[rounds_succ]
   go_wp2_with fail
   rw[rounds_succ]
   go_wp2_with fail
   go_ret2
   exact ⟨rfl,((((hb.alloc hz _).alloc (by simp;omega) _).alloc (by simp;omega) _).alloc (by simp;omega) _)⟩
set_option maxRecDepth 100000 in
set_option maxHeartbeats 2000000 in
theorem signBetween_14 (w:World) (ht:Tabs w):Calls Tryz.prog 213 #[.int .i64 14] w fun e w'=>e=.returned (.tuple #[.string ⟨#[60,61]⟩,.int .i64 2])/\Below w.heap.size w w':=by
 have hl:=load_all ht
 clear ht
 go_enter Tryz.func213,Tryz.ntmps213
 go_wp2_with (refine wpList_load_eq rfl 300 (.global 8) rfl ⟨8,0,none⟩ rfl (.agg BBV) hl ?_;clear hl)
 go_loopg [9] 6 (fun f i wr=>∃k:Nat,f=6-k/\k≤2/\i=.int .i64 k/\Below w.heap.size w wr)
 case atStart=>exact ⟨0,by omega,by omega,rfl,Below.refl _ _⟩
 case round=>
  obtain ⟨k,rfl,hk,rfl,hb⟩:=hrel
  have hz:=hb.size
  have hcases:k=0\/k=1\/k=2:=by omega
  rcases hcases with rfl|rfl|rfl
  ·have e0:=bb0
   have e1:=by00
   have e2:=by01
   have e3:=by02
   have e4:=by03
   go_wp2_with fail
   refine wp_loop_rounds 5 ?_
   rw[rounds_succ]
   go_wp2_with fail
   rw[rounds_succ]
   go_wp2_with fail
   rw[rounds_succ]
   go_wp2_with fail
   rw[rounds_succ]
   go_wp2_with fail
   rw[rounds_succ]
   go_wp2_with fail
   go_roundg (6-(0+1))
   case measure=>omega
   case rel=>exact ⟨0+1,rfl,by omega,by go_num,(((((hb.alloc hz _).alloc (by simp;omega) _).alloc (by simp;omega) _).alloc (by simp;omega) _).alloc (by simp;omega) _)⟩
  ·have e0:=bb1
   have e1:=by10
   have e2:=by11
   have e3:=by12
   have e4:=by13
   go_wp2_with fail
   refine wp_loop_rounds 5 ?_
   rw[rounds_succ]
   go_wp2_with fail
   rw[rounds_succ]
   go_wp2_with fail
   rw[rounds_succ]
   go_wp2_with fail
   rw[rounds_succ]
   go_wp2_with fail
   rw[rounds_succ]
   go_wp2_with fail
   go_roundg (6-(1+1))
   case measure=>omega
   case rel=>exact ⟨1+1,rfl,by omega,by go_num,(((((hb.alloc hz _).alloc (by simp;omega) _).alloc (by simp;omega) _).alloc (by simp;omega) _).alloc (by simp;omega) _)⟩
  ·have e0:=bb2
   have e1:=by20
   have e2:=by21
   have e3:=by22
   have e4:=by23
   go_wp2_with fail
   refine wp_loop_rounds 4 ?_
   rw[rounds_succ]
   go_wp2_with fail
   rw[rounds_succ]
   go_wp2_with fail
   rw[rounds_succ]
   go_wp2_with fail
   rw[rounds_succ]
   go_wp2_with fail
   go_ret2
   exact ⟨rfl,(((((hb.alloc hz _).alloc (by simp;omega) _).alloc (by simp;omega) _).alloc (by simp;omega) _).alloc (by simp;omega) _)⟩
set_option maxRecDepth 100000 in
set_option maxHeartbeats 2000000 in
theorem signBetween_15 (w:World) (ht:Tabs w):Calls Tryz.prog 213 #[.int .i64 15] w fun e w'=>e=.returned (.tuple #[.string ⟨#[38,38]⟩,.int .i64 1])/\Below w.heap.size w w':=by
 have hl:=load_all ht
 clear ht
 go_enter Tryz.func213,Tryz.ntmps213
 go_wp2_with (refine wpList_load_eq rfl 300 (.global 8) rfl ⟨8,0,none⟩ rfl (.agg BBV) hl ?_;clear hl)
 go_loopg [9] 6 (fun f i wr=>∃k:Nat,f=6-k/\k≤1/\i=.int .i64 k/\Below w.heap.size w wr)
 case atStart=>exact ⟨0,by omega,by omega,rfl,Below.refl _ _⟩
 case round=>
  obtain ⟨k,rfl,hk,rfl,hb⟩:=hrel
  have hz:=hb.size
  have hcases:k=0\/k=1:=by omega
  rcases hcases with rfl|rfl
  ·have e0:=bb0
   have e1:=by00
   have e2:=by01
   have e3:=by02
   have e4:=by03
   go_wp2_with fail
   refine wp_loop_rounds 5 ?_
   rw[rounds_succ]
   go_wp2_with fail
   rw[rounds_succ]
   go_wp2_with fail
   rw[rounds_succ]
   go_wp2_with fail
   rw[rounds_succ]
   go_wp2_with fail
   rw[rounds_succ]
   go_wp2_with fail
   go_roundg (6-(0+1))
   case measure=>omega
   case rel=>exact ⟨0+1,rfl,by omega,by go_num,(((((hb.alloc hz _).alloc (by simp;omega) _).alloc (by simp;omega) _).alloc (by simp;omega) _).alloc (by simp;omega) _)⟩
  ·have e0:=bb1
   have e1:=by10
   go_wp2_with fail
   refine wp_loop_rounds 1 ?_
   rw[rounds_succ]
   go_wp2_with fail
   go_ret2
   exact ⟨rfl,((hb.alloc hz _).alloc (by simp;omega) _)⟩
set_option maxRecDepth 100000 in
set_option maxHeartbeats 2000000 in
theorem signBetween_16 (w:World) (ht:Tabs w):Calls Tryz.prog 213 #[.int .i64 16] w fun e w'=>e=.returned (.tuple #[.string ⟨#[124,124]⟩,.int .i64 0])/\Below w.heap.size w w':=by
 have hl:=load_all ht
 clear ht
 go_enter Tryz.func213,Tryz.ntmps213
 go_wp2_with (refine wpList_load_eq rfl 300 (.global 8) rfl ⟨8,0,none⟩ rfl (.agg BBV) hl ?_;clear hl)
 go_loopg [9] 6 (fun f i wr=>∃k:Nat,f=6-k/\k≤0/\i=.int .i64 k/\Below w.heap.size w wr)
 case atStart=>exact ⟨0,by omega,by omega,rfl,Below.refl _ _⟩
 case round=>
  obtain ⟨k,rfl,hk,rfl,hb⟩:=hrel
  have hz:=hb.size
  have hcases:k=0:=by omega
  rcases hcases with rfl
  ·have e0:=bb0
   have e1:=by00
   go_wp2_with fail
   refine wp_loop_rounds 1 ?_
   rw[rounds_succ]
   go_wp2_with fail
   go_ret2
   exact ⟨rfl,((hb.alloc hz _).alloc (by simp;omega) _)⟩
end Go.Proofs.YtpogmfliojcnjaaGreatDoor
