import Derived.Test.YtpogmfliojcnjaaGreatDoorSUq
import Derived.Test.YtpogmfliojcnjaaGreatDoorSUq2
namespace Go.Proofs.YtpogmfliojcnjaaGreatDoor
section
open Go.RowKit Px
section
variable {A:Nat->Prop}{w w':World}{rb bn bw m:Nat}{ns ls:List Str}{now was:Px.Env}
set_option maxRecDepth 100000 in
set_option maxHeartbeats 8000000 in
theorem open_S {gS gW o M cap:Nat}{ad:Option Addr}{ys:List Wy}{cs:List Int}{ov:Bool}
    (hF:∀(W:World) (g o:Nat) (y:Wy),W.cell? ⟨g,o,none⟩=some (.int .i64 (y.kind:Int))->W.cell? ⟨g,o+1,none⟩=some (.bool y.now)->Calls Tryz.prog 115 #[.pointer (some ⟨g,o,none⟩)] W fun e w'=>e=.returned (.bool (askS y))/\w'=W)
    (h9:w.cell? ⟨gS,o+9,none⟩=some (.slice ad M cap)) (hM:M=ys.length) (hmx:M≤maxLen) (had:0<M->ad=some ⟨gW,0,none⟩) (hW:WaysM A w ls gS gW ys cs) (hNu:∀y∈ys,NuOk y.cond) (h:RunV w rb bn bw m ns now was)
    (hne:0<M->gW≠rb/\gW≠bn/\gW≠bw/\gW≠gS/\gW<w.heap.size) (hsn:gS≠bn) (hrn:rb≠bn) (hwn:bw≠bn) (hA:∀b,A b->b<w.heap.size/\b≠bn/\(0<M->b≠gW))
    (hov:∀(bx:Nat) (W:World),FrP (fun b=>0<M/\b=gW) bn w W->W.cell? ⟨bx,0,none⟩=some (.pointer (some ⟨gS,o,none⟩))->Calls Tryz.prog 153 #[.pointer (some ⟨bx,0,none⟩)] W fun e w'=>e=.returned (.bool ov)/\w'=W) :
    Calls Tryz.prog 112 #[.pointer (some ⟨rb,0,none⟩),.pointer (some ⟨gS,o,none⟩),.func (.func 115) #[] #[]] w fun e w'=>e=.returned (wP gW (opnW ov now was askS ys cs).1)/\Hid (WaysM A w' ls gS gW ys (opnW ov now was askS ys cs).2/\FrP (fun b=>0<M/\b=gW) bn w w'/\RunV w' rb bn bw m ns now was):=by
 have hmf:∀(fn:Fn) (first cap:Array Value) (w:World),(Instr.makeFunc fn first cap).run Tryz.prog w=.ok (.func fn first cap) w:=fun _ _ _ _=>rfl
 have hN6:(M:Int)≤9223372036854775807:=by unfold maxLen at hmx;omega
 obtain ⟨X,hX⟩:∃X,X=w.alloc (.cells #[.pointer (some ⟨gS,o,none⟩)] 82):=⟨_,rfl⟩
 obtain ⟨bx,hbx⟩:∃bx,bx=w.heap.size:=⟨_,rfl⟩
 have hbX:Below w.heap.size w X:=by rw[hX];exact ck_grown _ _
 have hkX:X.heap[bx]?=some (.cells #[.pointer (some ⟨gS,o,none⟩)] 82 (0,0)):=by rw[hX,hbx];exact ck_new _ _
 have HBX:Hid (∀W,FrP (fun b=>0<M/\b=gW) bn X W->W.cell? ⟨bx,0,none⟩=some (.pointer (some ⟨gS,o,none⟩))/\W.cell? ⟨gS,o+9,none⟩=some (.slice ad M cap)):=fun W hW=>by
  have hbl:=h.mn.lt
  refine ⟨hW.cell (cell_row hkX 0 rfl) (fun e=>by have:=(hne e.1).2.2.2.2;have:=e.2;simp only at this;omega) (by show bx≠bn;omega),hW.cell (ck_cell hbX h9) (fun e=>(hne e.1).2.2.2.1 e.2.symm) hsn⟩
 have HV:Hid (∀W,FrP (fun b=>0<M/\b=gW) bn X W->W.heap[bn]?=X.heap[bn]?->RunV W rb bn bw m ns now was):=fun W hW hb=>by
  have h1:=h.below hbX
  exact h1.fr hW ⟨fun e=>(hne e.1).1 e.2.symm,hrn⟩ ⟨fun e=>(hne e.1).2.2.1 e.2.symm,hwn⟩ (h1.mn.keep hb)
 have HW0:Hid (WaysM A X ls gS gW ys cs):=hW.keep (fun b _ hlt=>hbX.block b hlt) (fun hp=>hbX.block gW (hne (by omega)).2.2.2.2)
 have HA:Hid (∀b,A b->b<w.heap.size/\b≠bn/\(0<M->b≠gW)):=hA
 have HF:Hid (∀(W:World) (g o:Nat) (y:Wy),W.cell? ⟨g,o,none⟩=some (.int .i64 (y.kind:Int))->W.cell? ⟨g,o+1,none⟩=some (.bool y.now)->Calls Tryz.prog 115 #[.pointer (some ⟨g,o,none⟩)] W fun e w'=>e=.returned (.bool (askS y))/\w'=W):=hF
 have HOV:Hid (∀W,FrP (fun b=>0<M/\b=gW) bn X W->Calls Tryz.prog 153 #[.pointer (some ⟨bx,0,none⟩)] W fun e w'=>e=.returned (.bool ov)/\w'=W):=fun W hW=>hov bx W ((FrP.of_below hbX).trans hW) (HBX.out W hW).1
 have HNE:Hid (0<M->gW≠rb/\gW≠bn/\gW≠bw/\gW≠gS/\gW<w.heap.size):=hne
 have HNU:Hid (∀y∈ys,NuOk y.cond):=hNu
 have HAD:Hid (0<M->ad=some ⟨gW,0,none⟩):=had
 have HM:Hid (M=ys.length):=hM
 have HB0:Hid (Below w.heap.size w X):=hbX
 obtain ⟨x0,x9⟩:=HBX.out X (FrP.refl _ _ _)
 obtain ⟨R,hR⟩:∃R,R=opnW ov now was askS ys cs:=⟨_,rfl⟩
 have HR:Hid (R=opnI ov now was askS ys M 0 cs):=by rw[Hid,hR,opnW,hM]
 rw[<-hR]
 clear hF hW hNu h hne hsn hrn hwn hA hov hbX hkX hM hmx had h9 hR
 rw[hX] at x0 x9
 rw[hbx] at x0
 go_enter Tryz.func112,Tryz.ntmps112
 go_wp2_with fail
 rw[<-hX,<-hbx]
 clear x0 x9 hX hbx
 go_loopg [16] M (fun f i wr=>∃(k:Nat) (ds:List Int),f=M-k/\k≤M/\i=.int .i64 (k:Int)/\Hid (R=opnI ov now was askS ys (M-k) k ds/\WaysM A wr ls gS gW ys ds/\FrP (fun b=>0<M/\b=gW) bn X wr/\wr.heap[bn]?=X.heap[bn]?))
 case atStart=>exact ⟨0,cs,by omega,by omega,rfl,HR.out,HW0.out,FrP.refl _ _ _,rfl⟩
 case round=>
  obtain ⟨k,ds,rfl,hk,rfl,hr⟩:=hrel
  obtain ⟨hr1,hr2,hr3,hr4⟩:=hr.out
  by_cases hlt:k<M
  ·obtain ⟨y,hy⟩:∃y,ys[k]?=some y:=⟨ys[k]'(by rw[<-HM.out];exact hlt),by rw[List.getElem?_eq_getElem]⟩
   obtain ⟨c,hc⟩:∃c,ds[k]?=some c:=⟨ds[k]'(by rw[hr2.1,<-HM.out];exact hlt),by rw[List.getElem?_eq_getElem]⟩
   have hcd:ds.getD k 0=c:=by rw[List.getD_eq_getElem?_getD,hc];rfl
   have hwm:=hr2.2 k y c hy hc
   have hop:=opnI_at (now:=now) (was:=was) (ov:=ov) (ask:=askS) (f:=M-(k+1)) (cs:=ds) hy
   rw[show M-(k+1)+1=M-k by omega,hcd,<-hr1] at hop
   obtain ⟨z0,z9⟩:=HBX.out wr hr3
   have hix:=ixY ad gW M cap k hlt HAD.out
   obtain ⟨⟨p,q,y0,y1,_⟩,_⟩:=hwm
   have hask:=HF.out wr gW (k*9) y y0 y1
   have hrv:=HV.out wr hr3 hr4
   have hio:=isOpen_any (bx:=bx) (hr2.2 k y c hy hc) (HNU.out y (List.mem_of_getElem? hy)) hrv (fun W hW=>HOV.out W (hr3.trans (FrP.of_below hW)))
   have HG:Hid (WaysM A wr ls gS gW ys ds/\FrP (fun b=>0<M/\b=gW) bn X wr/\wr.heap[bn]?=X.heap[bn]?/\RunV wr rb bn bw m ns now was):=⟨hr2,hr3,hr4,hrv⟩
   obtain ⟨tm,htm⟩:∃tm:Int,tm=(y.times:Int):=⟨_,rfl⟩
   rw[<-htm] at hop hio
   unfold ovV at hio
   unfold OpenTo at hio
   have HNK:Hid (∀W,Below wr.heap.size wr W->WaysM A W ls gS gW ys ds/\FrP (fun b=>0<M/\b=gW) bn X W/\W.heap[bn]?=X.heap[bn]?):=fun W hW=>
    ⟨hr2.keep (fun b _ hl=>hW.block b hl) (fun _=>hW.block gW (Nat.lt_of_lt_of_le (HNE.out (by omega)).2.2.2.2 (Nat.le_trans HB0.out.size hr3.size))),hr3.trans (FrP.of_below hW),by rw[hW.block bn hrv.mn.lt];exact hr4⟩
   have HPUT:Hid (∀W nq,Below wr.heap.size wr W->WaysM A ((W.setCell ⟨gW,k*9+8,none⟩ (.int .i64 (wrap64 (c+1)))).drewN nq) ls gS gW ys (ds.set k (wrap64 (c+1)))/\FrP (fun b=>0<M/\b=gW) bn X ((W.setCell ⟨gW,k*9+8,none⟩ (.int .i64 (wrap64 (c+1)))).drewN nq)/\((W.setCell ⟨gW,k*9+8,none⟩ (.int .i64 (wrap64 (c+1)))).drewN nq).heap[bn]?=X.heap[bn]?):=fun W nq hW=>by
    obtain ⟨a1,a2,a3⟩:=HNK.out W hW
    refine ⟨(a1.put (k:=k) (c':=wrap64 (c+1)) (fun b hb=>(HA.out b hb).2.2 (by omega))).keep (fun _ _ _=>rfl) (fun _=>rfl),?_,?_⟩
    ·exact (a2.setCell (p:=⟨gW,k*9+8,none⟩) ⟨by omega,rfl⟩ _).trans ⟨rfl,rfl,rfl,Nat.le_refl _,fun _ _ _ _=>rfl⟩
    ·show (W.setCell ⟨gW,k*9+8,none⟩ _).heap[bn]?=_
     rw[Below.heap_setCell _ _ _ _ (fun e=>(HNE.out (by omega)).2.1 e.symm)];exact a3
   clear hr hr1 hr2 hr3 hr4 hy hc hcd hrv htm
   cases hak:askS y with
   | false=>
    rw[hak] at hask hop
    rw[Bool.false_and,if_neg (by simp)] at hop
    have HOP:Hid (R=opnI ov now was askS ys (M-(k+1)) (k+1) ds):=hop
    clear hop hak hio HNK HPUT
    go_wp2_with (refine hask.mono ?_;rintro e w' ⟨rfl,hw'⟩;obtain rfl:=hw'.symm)
    go_roundg (M-(k+1))
    case measure=>omega
    case rel=>exact ⟨k+1,ds,rfl,by omega,by go_num,HOP.out,HG.out.1,HG.out.2.1,HG.out.2.2.1⟩
   | true=>
    rw[hak] at hask hop
    rw[Bool.true_and] at hop
    cases hso:isSo ov now was y with
    | false=>
     rw[hso] at hio hop
     rw[if_neg (by simp)] at hop
     have HOP:Hid (R=opnI ov now was askS ys (M-(k+1)) (k+1) ds):=hop
     clear hop hak hso HPUT
     go_wp2_with (first
      | (go_at_call 154;refine hio.mono ?_;rintro e w1 ⟨W,nq,hB,⟨-,rfl,hw1⟩|⟨hn,-⟩⟩;rotate_left;(· exact absurd hn (by simp));obtain rfl:=hw1.symm)
      | (refine hask.mono ?_;rintro e w' ⟨rfl,hw'⟩;obtain rfl:=hw'.symm))
     go_roundg (M-(k+1))
     case measure=>omega
     case rel=>obtain ⟨a1,a2,a3⟩:=HNK.out W hB.out;exact ⟨k+1,ds,rfl,by omega,by go_num,HOP.out,a1,a2,a3⟩
    | true=>
     rw[hso] at hio hop
     rw[if_pos rfl] at hop
     by_cases htt:tm≤wrap64 (c+1)
     ·rw[if_pos htt] at hop
      have HOP:Hid (R=(some k,ds.set k (wrap64 (c+1)))):=hop
      rw[show decide (tm≤wrap64 (c+1))=true from decide_eq_true htt] at hio
      clear hop hak hso HNK htt
      go_wp2_with (first
       | (go_at_call 154;refine hio.mono ?_;rintro e w1 ⟨W,nq,hB,⟨hn,-⟩|⟨-,rfl,hw1⟩⟩;(· exact absurd hn (by simp)))
       | (refine hask.mono ?_;rintro e w' ⟨rfl,hw'⟩;obtain rfl:=hw'.symm))
      go_ret
      obtain ⟨a1,a2,a3⟩:=HPUT.out W nq hB.out
      exact ⟨by rw[HOP.out];rfl,by rw[HOP.out];exact a1,(FrP.of_below HB0.out).trans a2,HV.out _ a2 a3⟩
     ·rw[if_neg htt] at hop
      have HOP:Hid (R=opnI ov now was askS ys (M-(k+1)) (k+1) (ds.set k (wrap64 (c+1)))):=hop
      rw[show decide (tm≤wrap64 (c+1))=false from decide_eq_false htt] at hio
      clear hop hak hso HNK htt
      go_wp2_with (first
       | (go_at_call 154;refine hio.mono ?_;rintro e w1 ⟨W,nq,hB,⟨hn,-⟩|⟨-,rfl,hw1⟩⟩;(· exact absurd hn (by simp)))
       | (refine hask.mono ?_;rintro e w' ⟨rfl,hw'⟩;obtain rfl:=hw'.symm))
      go_roundg (M-(k+1))
      case measure=>omega
      case rel=>
       obtain ⟨a1,a2,a3⟩:=HPUT.out W nq hB.out
       exact ⟨k+1,_,rfl,by omega,by go_num,HOP.out,a1,a2,a3⟩
  ·obtain rfl:k=M:=by omega
   rw[Nat.sub_self,opnI] at hr1
   have HFIN:Hid (R=(none,ds)/\WaysM A wr ls gS gW ys ds/\FrP (fun b=>0<k/\b=gW) bn w wr/\RunV wr rb bn bw m ns now was):=⟨hr1,hr2,(FrP.of_below HB0.out).trans hr3,HV.out wr hr3 hr4⟩
   clear hr hr1 hr2 hr3 hr4
   go_wp2_with fail
   go_ret
   exact ⟨by rw[HFIN.out.1];rfl,by rw[HFIN.out.1];exact HFIN.out.2.1,HFIN.out.2.2⟩
end
end
section
open Go.RowKit Px
section
variable {A:Nat->Prop}{w w':World}{rb bn bw m:Nat}{ns ls:List Str}{now was:Px.Env}
set_option maxRecDepth 100000 in
set_option maxHeartbeats 8000000 in
theorem open_W {gS gW o M cap:Nat}{ad:Option Addr}{ys:List Wy}{cs:List Int}{ov:Bool}
    (hF:∀(W:World) (g o:Nat) (y:Wy),W.cell? ⟨g,o,none⟩=some (.int .i64 (y.kind:Int))->W.cell? ⟨g,o+1,none⟩=some (.bool y.now)->Calls Tryz.prog 117 #[.pointer (some ⟨g,o,none⟩)] W fun e w'=>e=.returned (.bool (askW y))/\w'=W)
    (h9:w.cell? ⟨gS,o+9,none⟩=some (.slice ad M cap)) (hM:M=ys.length) (hmx:M≤maxLen) (had:0<M->ad=some ⟨gW,0,none⟩) (hW:WaysM A w ls gS gW ys cs) (hNu:∀y∈ys,NuOk y.cond) (h:RunV w rb bn bw m ns now was)
    (hne:0<M->gW≠rb/\gW≠bn/\gW≠bw/\gW≠gS/\gW<w.heap.size) (hsn:gS≠bn) (hrn:rb≠bn) (hwn:bw≠bn) (hA:∀b,A b->b<w.heap.size/\b≠bn/\(0<M->b≠gW))
    (hov:∀(bx:Nat) (W:World),FrP (fun b=>0<M/\b=gW) bn w W->W.cell? ⟨bx,0,none⟩=some (.pointer (some ⟨gS,o,none⟩))->Calls Tryz.prog 153 #[.pointer (some ⟨bx,0,none⟩)] W fun e w'=>e=.returned (.bool ov)/\w'=W) :
    Calls Tryz.prog 112 #[.pointer (some ⟨rb,0,none⟩),.pointer (some ⟨gS,o,none⟩),.func (.func 117) #[] #[]] w fun e w'=>e=.returned (wP gW (opnW ov now was askW ys cs).1)/\Hid (WaysM A w' ls gS gW ys (opnW ov now was askW ys cs).2/\FrP (fun b=>0<M/\b=gW) bn w w'/\RunV w' rb bn bw m ns now was):=by
 have hmf:∀(fn:Fn) (first cap:Array Value) (w:World),(Instr.makeFunc fn first cap).run Tryz.prog w=.ok (.func fn first cap) w:=fun _ _ _ _=>rfl
 have hN6:(M:Int)≤9223372036854775807:=by unfold maxLen at hmx;omega
 obtain ⟨X,hX⟩:∃X,X=w.alloc (.cells #[.pointer (some ⟨gS,o,none⟩)] 82):=⟨_,rfl⟩
 obtain ⟨bx,hbx⟩:∃bx,bx=w.heap.size:=⟨_,rfl⟩
 have hbX:Below w.heap.size w X:=by rw[hX];exact ck_grown _ _
 have hkX:X.heap[bx]?=some (.cells #[.pointer (some ⟨gS,o,none⟩)] 82 (0,0)):=by rw[hX,hbx];exact ck_new _ _
 have HBX:Hid (∀W,FrP (fun b=>0<M/\b=gW) bn X W->W.cell? ⟨bx,0,none⟩=some (.pointer (some ⟨gS,o,none⟩))/\W.cell? ⟨gS,o+9,none⟩=some (.slice ad M cap)):=fun W hW=>by
  have hbl:=h.mn.lt
  refine ⟨hW.cell (cell_row hkX 0 rfl) (fun e=>by have:=(hne e.1).2.2.2.2;have:=e.2;simp only at this;omega) (by show bx≠bn;omega),hW.cell (ck_cell hbX h9) (fun e=>(hne e.1).2.2.2.1 e.2.symm) hsn⟩
 have HV:Hid (∀W,FrP (fun b=>0<M/\b=gW) bn X W->W.heap[bn]?=X.heap[bn]?->RunV W rb bn bw m ns now was):=fun W hW hb=>by
  have h1:=h.below hbX
  exact h1.fr hW ⟨fun e=>(hne e.1).1 e.2.symm,hrn⟩ ⟨fun e=>(hne e.1).2.2.1 e.2.symm,hwn⟩ (h1.mn.keep hb)
 have HW0:Hid (WaysM A X ls gS gW ys cs):=hW.keep (fun b _ hlt=>hbX.block b hlt) (fun hp=>hbX.block gW (hne (by omega)).2.2.2.2)
 have HA:Hid (∀b,A b->b<w.heap.size/\b≠bn/\(0<M->b≠gW)):=hA
 have HF:Hid (∀(W:World) (g o:Nat) (y:Wy),W.cell? ⟨g,o,none⟩=some (.int .i64 (y.kind:Int))->W.cell? ⟨g,o+1,none⟩=some (.bool y.now)->Calls Tryz.prog 117 #[.pointer (some ⟨g,o,none⟩)] W fun e w'=>e=.returned (.bool (askW y))/\w'=W):=hF
 have HOV:Hid (∀W,FrP (fun b=>0<M/\b=gW) bn X W->Calls Tryz.prog 153 #[.pointer (some ⟨bx,0,none⟩)] W fun e w'=>e=.returned (.bool ov)/\w'=W):=fun W hW=>hov bx W ((FrP.of_below hbX).trans hW) (HBX.out W hW).1
 have HNE:Hid (0<M->gW≠rb/\gW≠bn/\gW≠bw/\gW≠gS/\gW<w.heap.size):=hne
 have HNU:Hid (∀y∈ys,NuOk y.cond):=hNu
 have HAD:Hid (0<M->ad=some ⟨gW,0,none⟩):=had
 have HM:Hid (M=ys.length):=hM
 have HB0:Hid (Below w.heap.size w X):=hbX
 obtain ⟨x0,x9⟩:=HBX.out X (FrP.refl _ _ _)
 obtain ⟨R,hR⟩:∃R,R=opnW ov now was askW ys cs:=⟨_,rfl⟩
 have HR:Hid (R=opnI ov now was askW ys M 0 cs):=by rw[Hid,hR,opnW,hM]
 rw[<-hR]
 clear hF hW hNu h hne hsn hrn hwn hA hov hbX hkX hM hmx had h9 hR
 rw[hX] at x0 x9
 rw[hbx] at x0
 go_enter Tryz.func112,Tryz.ntmps112
 go_wp2_with fail
 rw[<-hX,<-hbx]
 clear x0 x9 hX hbx
 go_loopg [16] M (fun f i wr=>∃(k:Nat) (ds:List Int),f=M-k/\k≤M/\i=.int .i64 (k:Int)/\Hid (R=opnI ov now was askW ys (M-k) k ds/\WaysM A wr ls gS gW ys ds/\FrP (fun b=>0<M/\b=gW) bn X wr/\wr.heap[bn]?=X.heap[bn]?))
 case atStart=>exact ⟨0,cs,by omega,by omega,rfl,HR.out,HW0.out,FrP.refl _ _ _,rfl⟩
 case round=>
  obtain ⟨k,ds,rfl,hk,rfl,hr⟩:=hrel
  obtain ⟨hr1,hr2,hr3,hr4⟩:=hr.out
  by_cases hlt:k<M
  ·obtain ⟨y,hy⟩:∃y,ys[k]?=some y:=⟨ys[k]'(by rw[<-HM.out];exact hlt),by rw[List.getElem?_eq_getElem]⟩
   obtain ⟨c,hc⟩:∃c,ds[k]?=some c:=⟨ds[k]'(by rw[hr2.1,<-HM.out];exact hlt),by rw[List.getElem?_eq_getElem]⟩
   have hcd:ds.getD k 0=c:=by rw[List.getD_eq_getElem?_getD,hc];rfl
   have hwm:=hr2.2 k y c hy hc
   have hop:=opnI_at (now:=now) (was:=was) (ov:=ov) (ask:=askW) (f:=M-(k+1)) (cs:=ds) hy
   rw[show M-(k+1)+1=M-k by omega,hcd,<-hr1] at hop
   obtain ⟨z0,z9⟩:=HBX.out wr hr3
   have hix:=ixY ad gW M cap k hlt HAD.out
   obtain ⟨⟨p,q,y0,y1,_⟩,_⟩:=hwm
   have hask:=HF.out wr gW (k*9) y y0 y1
   have hrv:=HV.out wr hr3 hr4
   have hio:=isOpen_any (bx:=bx) (hr2.2 k y c hy hc) (HNU.out y (List.mem_of_getElem? hy)) hrv (fun W hW=>HOV.out W (hr3.trans (FrP.of_below hW)))
   have HG:Hid (WaysM A wr ls gS gW ys ds/\FrP (fun b=>0<M/\b=gW) bn X wr/\wr.heap[bn]?=X.heap[bn]?/\RunV wr rb bn bw m ns now was):=⟨hr2,hr3,hr4,hrv⟩
   obtain ⟨tm,htm⟩:∃tm:Int,tm=(y.times:Int):=⟨_,rfl⟩
   rw[<-htm] at hop hio
   unfold ovV at hio
   unfold OpenTo at hio
   have HNK:Hid (∀W,Below wr.heap.size wr W->WaysM A W ls gS gW ys ds/\FrP (fun b=>0<M/\b=gW) bn X W/\W.heap[bn]?=X.heap[bn]?):=fun W hW=>
    ⟨hr2.keep (fun b _ hl=>hW.block b hl) (fun _=>hW.block gW (Nat.lt_of_lt_of_le (HNE.out (by omega)).2.2.2.2 (Nat.le_trans HB0.out.size hr3.size))),hr3.trans (FrP.of_below hW),by rw[hW.block bn hrv.mn.lt];exact hr4⟩
   have HPUT:Hid (∀W nq,Below wr.heap.size wr W->WaysM A ((W.setCell ⟨gW,k*9+8,none⟩ (.int .i64 (wrap64 (c+1)))).drewN nq) ls gS gW ys (ds.set k (wrap64 (c+1)))/\FrP (fun b=>0<M/\b=gW) bn X ((W.setCell ⟨gW,k*9+8,none⟩ (.int .i64 (wrap64 (c+1)))).drewN nq)/\((W.setCell ⟨gW,k*9+8,none⟩ (.int .i64 (wrap64 (c+1)))).drewN nq).heap[bn]?=X.heap[bn]?):=fun W nq hW=>by
    obtain ⟨a1,a2,a3⟩:=HNK.out W hW
    refine ⟨(a1.put (k:=k) (c':=wrap64 (c+1)) (fun b hb=>(HA.out b hb).2.2 (by omega))).keep (fun _ _ _=>rfl) (fun _=>rfl),?_,?_⟩
    ·exact (a2.setCell (p:=⟨gW,k*9+8,none⟩) ⟨by omega,rfl⟩ _).trans ⟨rfl,rfl,rfl,Nat.le_refl _,fun _ _ _ _=>rfl⟩
    ·show (W.setCell ⟨gW,k*9+8,none⟩ _).heap[bn]?=_
     rw[Below.heap_setCell _ _ _ _ (fun e=>(HNE.out (by omega)).2.1 e.symm)];exact a3
   clear hr hr1 hr2 hr3 hr4 hy hc hcd hrv htm
   cases hak:askW y with
   | false=>
    rw[hak] at hask hop
    rw[Bool.false_and,if_neg (by simp)] at hop
    have HOP:Hid (R=opnI ov now was askW ys (M-(k+1)) (k+1) ds):=hop
    clear hop hak hio HNK HPUT
    go_wp2_with (refine hask.mono ?_;rintro e w' ⟨rfl,hw'⟩;obtain rfl:=hw'.symm)
    go_roundg (M-(k+1))
    case measure=>omega
    case rel=>exact ⟨k+1,ds,rfl,by omega,by go_num,HOP.out,HG.out.1,HG.out.2.1,HG.out.2.2.1⟩
   | true=>
    rw[hak] at hask hop
    rw[Bool.true_and] at hop
    cases hso:isSo ov now was y with
    | false=>
     rw[hso] at hio hop
     rw[if_neg (by simp)] at hop
     have HOP:Hid (R=opnI ov now was askW ys (M-(k+1)) (k+1) ds):=hop
     clear hop hak hso HPUT
     go_wp2_with (first
      | (go_at_call 154;refine hio.mono ?_;rintro e w1 ⟨W,nq,hB,⟨-,rfl,hw1⟩|⟨hn,-⟩⟩;rotate_left;(· exact absurd hn (by simp));obtain rfl:=hw1.symm)
      | (refine hask.mono ?_;rintro e w' ⟨rfl,hw'⟩;obtain rfl:=hw'.symm))
     go_roundg (M-(k+1))
     case measure=>omega
     case rel=>obtain ⟨a1,a2,a3⟩:=HNK.out W hB.out;exact ⟨k+1,ds,rfl,by omega,by go_num,HOP.out,a1,a2,a3⟩
    | true=>
     rw[hso] at hio hop
     rw[if_pos rfl] at hop
     by_cases htt:tm≤wrap64 (c+1)
     ·rw[if_pos htt] at hop
      have HOP:Hid (R=(some k,ds.set k (wrap64 (c+1)))):=hop
      rw[show decide (tm≤wrap64 (c+1))=true from decide_eq_true htt] at hio
      clear hop hak hso HNK htt
      go_wp2_with (first
       | (go_at_call 154;refine hio.mono ?_;rintro e w1 ⟨W,nq,hB,⟨hn,-⟩|⟨-,rfl,hw1⟩⟩;(· exact absurd hn (by simp)))
       | (refine hask.mono ?_;rintro e w' ⟨rfl,hw'⟩;obtain rfl:=hw'.symm))
      go_ret
      obtain ⟨a1,a2,a3⟩:=HPUT.out W nq hB.out
      exact ⟨by rw[HOP.out];rfl,by rw[HOP.out];exact a1,(FrP.of_below HB0.out).trans a2,HV.out _ a2 a3⟩
     ·rw[if_neg htt] at hop
      have HOP:Hid (R=opnI ov now was askW ys (M-(k+1)) (k+1) (ds.set k (wrap64 (c+1)))):=hop
      rw[show decide (tm≤wrap64 (c+1))=false from decide_eq_false htt] at hio
      clear hop hak hso HNK htt
      go_wp2_with (first
       | (go_at_call 154;refine hio.mono ?_;rintro e w1 ⟨W,nq,hB,⟨hn,-⟩|⟨-,rfl,hw1⟩⟩;(· exact absurd hn (by simp)))
       | (refine hask.mono ?_;rintro e w' ⟨rfl,hw'⟩;obtain rfl:=hw'.symm))
      go_roundg (M-(k+1))
      case measure=>omega
      case rel=>
       obtain ⟨a1,a2,a3⟩:=HPUT.out W nq hB.out
       exact ⟨k+1,_,rfl,by omega,by go_num,HOP.out,a1,a2,a3⟩
  ·obtain rfl:k=M:=by omega
   rw[Nat.sub_self,opnI] at hr1
   have HFIN:Hid (R=(none,ds)/\WaysM A wr ls gS gW ys ds/\FrP (fun b=>0<k/\b=gW) bn w wr/\RunV wr rb bn bw m ns now was):=⟨hr1,hr2,(FrP.of_below HB0.out).trans hr3,HV.out wr hr3 hr4⟩
   clear hr hr1 hr2 hr3 hr4
   go_wp2_with fail
   go_ret
   exact ⟨by rw[HFIN.out.1];rfl,by rw[HFIN.out.1];exact HFIN.out.2.1,HFIN.out.2.2⟩
end
end
section
open Go.RowKit Px
def OpenOk (F:Nat) (ask:Wy->Bool):Prop:=∀{A:Nat->Prop}{w:World}{rb bn bw m:Nat}{ns ls:List Str}{now was:Px.Env}{gS gW o M cap:Nat}{ad:Option Addr}{ys:List Wy}{cs:List Int}{ov:Bool},
    w.cell? ⟨gS,o+9,none⟩=some (.slice ad M cap)->M=ys.length->M≤maxLen->(0<M->ad=some ⟨gW,0,none⟩)->WaysM A w ls gS gW ys cs->(∀y∈ys,NuOk y.cond)->RunV w rb bn bw m ns now was->
    (0<M->gW≠rb/\gW≠bn/\gW≠bw/\gW≠gS/\gW<w.heap.size)->gS≠bn->rb≠bn->bw≠bn->(∀b,A b->b<w.heap.size/\b≠bn/\(0<M->b≠gW))->
    (∀(bx:Nat) (W:World),FrP (fun b=>0<M/\b=gW) bn w W->W.cell? ⟨bx,0,none⟩=some (.pointer (some ⟨gS,o,none⟩))->Calls Tryz.prog 153 #[.pointer (some ⟨bx,0,none⟩)] W fun e w'=>e=.returned (.bool ov)/\w'=W)->
    Calls Tryz.prog 112 #[.pointer (some ⟨rb,0,none⟩),.pointer (some ⟨gS,o,none⟩),.func (.func F) #[] #[]] w fun e w'=>e=.returned (wP gW (opnW ov now was ask ys cs).1)/\Hid (WaysM A w' ls gS gW ys (opnW ov now was ask ys cs).2/\FrP (fun b=>0<M/\b=gW) bn w w'/\RunV w' rb bn bw m ns now was)
theorem open_ok1:OpenOk 113 askNS:=fun h1 h2 h3 h4 h5 h6 h7 h8 h9 h10 h11 h12 h13=>open_NS (fun _ _ _ _ c0 c1=>askNS_any c0 c1) h1 h2 h3 h4 h5 h6 h7 h8 h9 h10 h11 h12 h13
theorem open_ok2:OpenOk 114 askNW:=fun h1 h2 h3 h4 h5 h6 h7 h8 h9 h10 h11 h12 h13=>open_NW (fun _ _ _ _ c0 c1=>askNW_any c0 c1) h1 h2 h3 h4 h5 h6 h7 h8 h9 h10 h11 h12 h13
theorem open_ok3:OpenOk 115 askS:=fun h1 h2 h3 h4 h5 h6 h7 h8 h9 h10 h11 h12 h13=>open_S (fun _ _ _ _ c0 _=>askS_any c0) h1 h2 h3 h4 h5 h6 h7 h8 h9 h10 h11 h12 h13
theorem open_ok4:OpenOk 117 askW:=fun h1 h2 h3 h4 h5 h6 h7 h8 h9 h10 h11 h12 h13=>open_W (fun _ _ _ _ c0 _=>askW_any' c0) h1 h2 h3 h4 h5 h6 h7 h8 h9 h10 h11 h12 h13
theorem overs_all {σ ρ:Type}(O:Ops σ ρ):∀(rs:List (List σ)) (ds:List ρ),overs O rs ds=(List.zipWith O.over rs ds).all id:=by
 intro rs
 induction rs with
 | nil=>intro ds;rfl
 | cons r rs ih=>
  intro ds
  cases ds with
  | nil=>rfl
  | cons d ds=>rw[overs,ih];rfl
section
variable {A P:Nat->Prop}{w w':World}{k g rb bn bw m:Nat}{ns:List Str}{now was:Px.Env}{L:List (StF (St k))}{d:RdF (Rd k)}{l:Lie}
theorem role_ne {l:Lie}{a b:Nat}{r r':Role}(ha:l.role a=r) (hb:l.role b=r') (h:r≠r'):a≠b:=fun e=>h (by rw[<-ha,<-hb,e])
theorem open_at {F:Nat}{ask:Wy->Bool}(hO:OpenOk F ask) {i:Nat}{s:StF (St k)}{x:SdF (Rd k)}(h:RMem A w (RegM A k w) P L d g l) (hst:StR ns s) (hS:Sep A P w rb bn bw) (hv:RunV w rb bn bw m ns now was) (hi:L[i]?=some s) (hx:d.sts[i]?=some x) :
    Calls Tryz.prog 112 #[.pointer (some ⟨rb,0,none⟩),.pointer (some ⟨l.gS,i*11,none⟩),.func (.func F) #[] #[]] w fun e w'=>e=.returned (wP (l.gW i) (opnW (overs (OpsK k) s.regions x.inside) now was ask s.ways x.so).1)/\
     Hid (RMem A w' (RegM A k w') P L (withS d i ⟨(opnW (overs (OpsK k) s.regions x.inside) now was ask s.ways x.so).2,x.inside⟩) g l/\RunV w' rb bn bw m ns now was/\FrP P bn w w'):=by
 have hm:=h.st i s x hi hx
 obtain ⟨aw,cw,c9,haw⟩:=hm.wy
 obtain ⟨ai,ci,c10,hai⟩:=hm.iy
 have hgs:=hS.p _ h.ps.1
 refine (hO (ov:=overs (OpsK k) s.regions x.inside) (gW:=l.gW i) c9 rfl hst.wl (fun hp=>(haw hp).1) ⟨hm.wl,hm.wm⟩ (fun y hy=>(hst.wy y hy).1) hv (fun hp=>?_) hgs.2.2.1 hS.rn hS.wn (fun b hb=>⟨(hS.a b hb).1,(hS.a b hb).2.2,fun hp e=>(hS.a b hb).2.1 (e▸(haw hp).2.1)⟩) (fun bx W hW hbx=>?_)).mono ?_
 ·have hw:=hS.p _ (haw hp).2.1
  exact ⟨hw.2.1,hw.2.2.1,hw.2.2.2,role_ne (haw hp).2.2 h.ps.2 (by simp),hw.1⟩
 ·have hne:∀b,P b->(0<s.ways.length->l.role b≠Role.ways i)->¬(0<s.ways.length/\b=l.gW i):=fun b hb hr e=>hr e.1 (e.2▸(haw e.1).2.2)
  have hgS:¬(0<s.ways.length/\l.gS=l.gW i):=hne _ h.ps.1 (fun _=>by rw[h.ps.2];simp)
  rw[overs_all]
  refine over_any (gI:=l.gI i) (gr:=l.gr i) hbx (hW.cell c10 hgS hgs.2.2.1) (by rw[Hid,List.length_zipWith,hm.il];simp) hst.il (fun hp=>(hai hp).1) (fun j b hj=>?_)
  rw[List.getElem?_zipWith] at hj
  cases hr:s.regions[j]? with
  | none=>rw[hr] at hj;simp at hj
  | some r=>
   cases hd:x.inside[j]? with
   | none=>rw[hr,hd] at hj;simp at hj
   | some dj=>
    rw[hr,hd] at hj
    simp at hj
    subst hj
    have hlt:j<s.regions.length:=(List.getElem?_eq_some_iff.1 hr).1
    obtain ⟨q1,q2⟩:=hm.im j r dj hr hd
    have hi2:=hai (by omega)
    refine ⟨hW.cell q1 (hne _ hi2.2.1 (fun _=>by rw[hi2.2.2];simp)) (hS.p _ hi2.2.1).2.2.1,?_⟩
    have hA:∀b,A b->b<w.heap.size/\¬(0<s.ways.length/\b=l.gW i)/\b≠bn:=fun b hb=>⟨(hS.a b hb).1,fun e=>(hS.a b hb).2.1 (e.2▸(haw e.1).2.1),(hS.a b hb).2.2⟩
    exact RegM.over k (hW.region hA (fun b hb=>⟨(hS.p b hb.1).1,hne b hb.1 (fun _=>by rw[hb.2];simp),(hS.p b hb.1).2.2.1⟩) q2)
 ·rintro e w' ⟨rfl,hh⟩
  obtain ⟨h1,h2,h3⟩:=hh.out
  exact ⟨rfl,h.ways hS hi hx h2 h1,h3,h2.wide fun b hb=>hb.2▸(haw hb.1).2.1⟩
end
end
end Go.Proofs.YtpogmfliojcnjaaGreatDoor
