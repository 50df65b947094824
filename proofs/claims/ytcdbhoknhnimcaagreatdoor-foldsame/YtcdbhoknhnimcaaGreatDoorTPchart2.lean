import Derived.Test.YtcdbhoknhnimcaaGreatDoorTPregion2
import Derived.Deep.QuietTactic
import Derived.BigQuiet
set_option maxRecDepth 100000
set_option maxHeartbeats 8000000
namespace Go.Proofs.YtcdbhoknhnimcaaGreatDoor
section
open Go.RowKit Px
theorem Tryz.infoDecl:(Tryz.prog.info? 160).map (fun i=>(i.zero,i.size,i.bytes))=some (some (.agg #[.int .i64 0,.string ⟨#[]⟩,.int .i64 0]),3,32):=by kernel_rfl
structure CU (B cb:Nat) (w:World) (nm:bB) (vs:List bJ) (rs:List (List (St 6))) (v r:Value) (xv xr:List Value):Prop where
 at_:w.heap[cb]?=some (.cells #[sv nm,v,r] 52 (0,0))
 good:jJ B w [iG vs v xv,dU 6 rs r xr]
theorem mR (vs:List bJ) (rs:List (List (St 6))) (v r:Value) (xv xr:List Value):iP [iG vs v xv,dU 6 rs r xr]:=by
 intro x hx A A' w w' kp
 simp only[List.mem_cons,List.not_mem_nil,or_false] at hx
 rcases hx with rfl|rfl
 ·exact fun h=>h
 ·exact La kp _ _ _ _
theorem CU.carry {B cb:Nat}{X:List Nat}{w w':World}{nm:bB}{vs:List bJ}{rs:List (List (St 6))}{v r:Value}{xv xr:List Value}(h:CU B cb w nm vs rs v r xv xr) (hX:∀x∈X,x<B) (hs:cb∉X) (hf:Fr w.heap.size X w w'):CU B cb w' nm vs rs v r xv xr:=
 ⟨by rw[hf.block cb (aB h.at_) hs];exact h.at_,h.good.carry (mR _ _ _ _ _ _) hX hf⟩
theorem CU.lts {B cb:Nat}{w:World}{nm:bB}{vs:List bJ}{rs:List (List (St 6))}{v r:Value}{xv xr:List Value}(h:CU B cb w nm vs rs v r xv xr):∀x∈[iG vs v xv,dU 6 rs r xr],∀g,x.v.ownBlock=some g->g<w.heap.size:=fun x hx g hg=>(h.good.block x hx g hg).2
theorem CU.grow_vars {B cb:Nat}{w4 w5:World}{nm:bB}{vs:List bJ}{rs:List (List (St 6))}{v r v':Value}{xv xr cs:List Value}{a:bJ}(h:CU B cb w4 nm vs rs v r xv xr) (hcb:cb<B)
    (ha:Gs a cs) (hown:w5.ownsRow B 160 3 v' ((vs++[a]).length) (xv++cs)) (hg:w4.grownBy w5 v.ownBlock) (hat:v'.ownBlock=v.ownBlock\/v'.ownBlock=some w4.heap.size) :
    CU B cb (w5.setCell ⟨cb,1,none⟩ v') nm (vs++[a]) rs v' r (xv++cs) xr:=by
 have hgd:jJ B w4 ([]++iG vs v xv::[dU 6 rs r xr]):=h.good
 have hc:iP ([]++iG vs v xv::[dU 6 rs r xr]):=mR vs rs v r xv xr
 have hold:Rows Gs vs xv:=hgd.has (iG vs v xv) (by simp)
 have hnew:=hgd.grow (s':=iG (vs++[a]) v' (xv++cs)) hc hg hat hown (Rows.append hold (Rows.one ha))
 have hput:=cP w5 cb 1 v'
 have hcb4:=aB h.at_
 refine ⟨?_,jJ.carry (X:=[cb]) hnew (mR (vs++[a]) rs v' r (xv++cs) xr) (by simp;exact hcb) hput⟩
 have hat5:w5.heap[cb]?=some (.cells #[sv nm,v,r] 52 (0,0)):=by
  rw[hg.block cb hcb4 (fun e1=>by have:=((h.good.own (iG vs v xv) (by simp)).lt cb e1.symm).1;omega)];exact h.at_
 rw[heap_setCell_same w5 cb 1 _ 52 _ hat5];rfl
theorem CU.grow_regions {B cb n:Nat}{w4 w5:World}{nm:bB}{vs:List bJ}{rs:List (List (St 6))}{v r v' u:Value}{xv xr:List Value}{a:List (St 6)}(h:CU B cb w4 nm vs rs v r xv xr) (hcb:cb<B) (hB:B≤n) (hn:∀x∈[iG vs v xv,dU 6 rs r xr],∀g,x.v.ownBlock=some g->g<n)
    (ha:aL (Ge n) w4 6 a u) (hown:w5.ownsRow B 210 1 v' ((rs++[a]).length) (xr++[u])) (hg:w4.grownBy w5 r.ownBlock) (hat:v'.ownBlock=r.ownBlock\/v'.ownBlock=some w4.heap.size) :
    CU B cb (w5.setCell ⟨cb,2,none⟩ v') nm vs (rs++[a]) v v' xv (xr++[u]):=by
 have hgd:jJ B w4 ([iG vs v xv]++dU 6 rs r xr::[]):=h.good
 have hc:iP ([iG vs v xv]++dU 6 rs r xr::[]):=mR vs rs v r xv xr
 have kN:=nK (s':=dU 6 (rs++[a]) v' (xr++[u])) hgd hn hB hg hat
 have ha2:Wt (aL (rM B ([iG vs v xv]++dU 6 (rs++[a]) v' (xr++[u])::[])) w5 6) a [u]:=⟨u,rfl,aL.carry kN 6 _ _ ha⟩
 have hold:=La (jQ (B:=B) (l1:=[iG vs v xv]) (l2:=[]) (s:=dU 6 rs r xr) (s':=dU 6 (rs++[a]) v' (xr++[u])) hg hat) _ _ _ _ (hgd.has (dU 6 rs r xr) (by simp))
 have hnew:=hgd.grow (s':=dU 6 (rs++[a]) v' (xr++[u])) hc hg hat hown (Rows.append hold (Rows.one ha2))
 have hput:=cP w5 cb 2 v'
 have hcb4:=aB h.at_
 refine ⟨?_,jJ.carry (X:=[cb]) hnew (mR vs (rs++[a]) v v' xv (xr++[u])) (by simp;exact hcb) hput⟩
 have hat5:w5.heap[cb]?=some (.cells #[sv nm,v,r] 52 (0,0)):=by
  rw[hg.block cb hcb4 (fun e1=>by have:=((h.good.own (dU 6 rs r xr) (by simp)).lt cb e1.symm).1;omega)];exact h.at_
 rw[heap_setCell_same w5 cb 2 _ 52 _ hat5];rfl
def iE (L:List Lx.fK) (vs:List bJ) (rs:List (List (St 6))) (c i:Nat):Except F (Option (List bJ×List (List (St 6))×Nat×Nat)):=
 if dV (tx L i)≠0 then
  if 20≤vs.length then .error (4,pl L (i+1))
  else match cZ L (dV (tx L i)) (i+1) with
   | .error x=>.error x
   | .ok (v,j)=>.ok (some (vs++[v],rs,c,j))
 else if tx L i=dL then
  match aU L 6 c (i+1) with
  | .error x=>.error x
  | .ok (l,c',j)=>.ok (some (vs,rs++[l],c',j))
 else .ok none
structure CE (C:dT) (B ba cb:Nat) (w:World):Prop where
 a:w.cell? ⟨ba,0,none⟩=some (.pointer (some ⟨C.rb,0,none⟩))
 la:ba<B
 lc:cb<B
 na:C.rb<ba
 nc:C.rb<cb
 nac:ba≠cb
 lr:C.rb<B
 hB:B≤w.heap.size
theorem CE.low {C:dT}{B ba cb:Nat}{w w':World}(h:CE C B ba cb w) (hf:Fr B [C.rb,cb] w w'):CE C B ba cb w':=by
 have h1:=h.na
 have h2:=h.nac
 exact ⟨by rw[hf.cell (p:=⟨ba,0,none⟩) h.la (by simp;omega)];exact h.a,h.la,h.lc,h1,h.nc,h2,h.lr,Nat.le_trans h.hB hf.size⟩
def Gu (B cb:Nat) (w:World) (nm:bB) (vs:List bJ) (rs:List (List (St 6))):Prop:=∃v r xv xr,CU B cb w nm vs rs v r xv xr
def So (C:dT) (B ba cb i c:Nat) (nm:bB) (vs:List bJ) (rs:List (List (St 6))):Option (List bJ×List (List (St 6))×Nat×Nat)->Value->World->Prop
 | none,v,w'=>v=.bool false/\PS C w' i c 0 0/\CE C B ba cb w'/\Gu B cb w' nm vs rs
 | some (vs',rs',c',j),v,w'=>v=.bool true/\i<j/\vs'.length≤20/\rs'.length≤j/\PS C w' j c' 0 0/\CE C B ba cb w'/\Gu B cb w' nm vs' rs'
theorem Qm {L:List Lx.fK}{i j:Nat}{n:Int}(h:first L i=.ok (n,j)):i≤j:=by
 rw[first] at h
 split at h
 ·split at h
  ·split at h
   ·exact absurd h (by simp)
   ·injection h with h;injection h with _ h;omega
  ·split at h
   ·exact absurd h (by simp)
   ·injection h with h;injection h with _ h;omega
 ·injection h with h;injection h with _ h;omega
theorem O4 {L:List Lx.fK}{kind i j:Nat}{v:bJ}(h:cZ L kind i=.ok (v,j)):i<j:=by
 rw[cZ] at h
 split at h
 ·exact absurd h (by simp)
 ·split at h
  ·exact absurd h (by simp)
  ·rename_i hf
   have:=Qm hf
   split at h
   ·injection h with h;injection h with _ h;omega
   ·exact absurd h (by simp)
theorem pX {C:dT}{w:World}{i st ins und:Nat}(h:PS C w i st ins und) (tb:ByteArray) (n:Nat) (ho:Hid (dV (bs tb)=n)):Calls Tryz.prog 136 #[.string tb] w fun e w'=>e=.returned (.int .i64 n)/\w'=w:=by
 refine (Da tb w h.tab).mono ?_
 rintro e w' ⟨rfl,rfl⟩
 exact ⟨by rw[ho.out],rfl⟩
theorem Ag {C:dT}{B ba cb:Nat}{w:World}{i c:Nat}{nm:bB}{vs:List bJ}{rs:List (List (St 6))}(h:PS C w i c 0 0) (hE:CE C B ba cb w) (hU:Gu B cb w nm vs rs) (hv:vs.length≤20) (hr:rs.length≤i) (hk:dV (tx C.L i)=0) (hn:tx C.L i≠dL):Calls Tryz.prog 135 #[.pointer (some ⟨ba,0,none⟩),.pointer (some ⟨cb,0,none⟩)] w (lE B [C.rb,cb] (So C B ba cb i c nm vs rs) w (iE C.L vs rs c i)):=by
 have _:=hv
 have _:=hr
 obtain ⟨v,r,xv,xr,hU⟩:=hU
 have hl6:=h.wf.len
 have hil:=h.lt
 have hx:=hE.a
 have hba:=Nat.lt_of_lt_of_le hE.la hE.hB
 have hEB:=hE.hB
 have hErb:=hE.lr
 have hEcb:=hE.lc
 have hEnc:=hE.nc
 have hEna:=hE.na
 have hEac:=hE.nac
 have hne':cb∉[C.rb]:=by simp;omega
 have hX:∀x∈[C.rb],x<B:=by simp;omega
 have HCX:Hid (∀(W W':World),W.cell? ⟨ba,0,none⟩=some (.pointer (some ⟨C.rb,0,none⟩))->ba<W.heap.size->Fr W.heap.size [C.rb] W W'->W'.cell? ⟨ba,0,none⟩=some (.pointer (some ⟨C.rb,0,none⟩))):=fun W W' h1 h2 hf=>by rw[hf.cell (p:=⟨ba,0,none⟩) h2 (by simp;omega)];exact h1
 obtain ⟨tb,htb⟩:∃tb:ByteArray,Hid (bs tb=tx C.L i):=⟨⟨(tx C.L i).toArray⟩,rfl⟩
 have hk0:Hid (dV (bs tb)=0):=by rw[Hid,htb.out];exact hk
 have HN:Hid _:=hn
 have HSP:Hid (iE C.L vs rs c i=.ok none):=by rw[Hid,iE,if_neg (by rw[hk];simp),if_neg hn]
 clear hk hn
 go_enter Tryz.func135,Tryz.ntmps135
 go_wp2_with (first
  | (go_at_call 137;refine (eD h tb htb).mono ?_;rintro e1 w1 ⟨rfl,hp1,hf1⟩;have hx1:=HCX.out _ _ hx hba hf1.wide;have hz1:=hf1.size)
  | (go_at_call 136;refine (pX hp1 tb 0 hk0).mono ?_;rintro e1 w2 ⟨rfl,hw2⟩;obtain rfl:=hw2.symm)
  | (go_at_call 140;refine (cG hp1 ⟨#[114,101,103,105,111,110]⟩ HN.out).mono ?_;rintro e1 w3 ⟨rfl,hp3,hf3⟩))
 go_ret
 rw[HSP.out]
 have hF:Fr w.heap.size [C.rb] w w3:=(hf1.wide).up hf3.wide
 exact ⟨_,rfl,⟨rfl,hp3,hE.low (hF.mono hE.hB (by simp)),_,_,_,_,hU.carry hX hne' hF⟩,hF.mono hE.hB (by simp)⟩
theorem Ah {C:dT}{B ba cb:Nat}{w:World}{i c:Nat}{nm:bB}{vs:List bJ}{rs:List (List (St 6))}(h:PS C w i c 0 0) (hE:CE C B ba cb w) (hU:Gu B cb w nm vs rs) (hv:vs.length≤20) (hr:rs.length≤i) (hk:dV (tx C.L i)≠0) (hf20:20≤vs.length):Calls Tryz.prog 135 #[.pointer (some ⟨ba,0,none⟩),.pointer (some ⟨cb,0,none⟩)] w (lE B [C.rb,cb] (So C B ba cb i c nm vs rs) w (iE C.L vs rs c i)):=by
 have _:=hv
 have _:=hr
 obtain ⟨v,r,xv,xr,hU⟩:=hU
 have hl6:=h.wf.len
 have hil:=h.lt
 have hx:=hE.a
 have hba:=Nat.lt_of_lt_of_le hE.la hE.hB
 have hEB:=hE.hB
 have hErb:=hE.lr
 have hEcb:=hE.lc
 have hEnc:=hE.nc
 have hEna:=hE.na
 have hEac:=hE.nac
 have hne':cb∉[C.rb]:=by simp;omega
 have hX:∀x∈[C.rb],x<B:=by simp;omega
 have HCX:Hid (∀(W W':World),W.cell? ⟨ba,0,none⟩=some (.pointer (some ⟨C.rb,0,none⟩))->ba<W.heap.size->Fr W.heap.size [C.rb] W W'->W'.cell? ⟨ba,0,none⟩=some (.pointer (some ⟨C.rb,0,none⟩))):=fun W W' h1 h2 hf=>by rw[hf.cell (p:=⟨ba,0,none⟩) h2 (by simp;omega)];exact h1
 obtain ⟨tb,htb⟩:∃tb:ByteArray,Hid (bs tb=tx C.L i):=⟨⟨(tx C.L i).toArray⟩,rfl⟩
 obtain ⟨kd,hkd⟩:∃x,Hid (dV (bs tb)=x):=⟨_,rfl⟩
 have hk1:kd≠0:=by rw[<-hkd.out,htb.out];exact hk
 have hk2:(((kd:Nat):Int) != 0)=true:=by simp;omega
 have hne0:tx C.L i≠[]:=fun e=>by rw[e] at hk;exact hk (by decide)
 have hnx:=h.wf.next h.lt hne0
 have HSP:Hid (iE C.L vs rs c i=.error (4,pl C.L (i+1))):=by rw[Hid,iE,if_pos hk,if_pos hf20]
 have hov:w.ownsRow B 160 3 v vs.length xv:=hU.good.own (iG vs v xv) (by simp)
 obtain ⟨ao,cap,rfl⟩:=aJ hov
 clear hk hne0
 go_enter Tryz.func135,Tryz.ntmps135
 go_wp2_with (first
  | (go_at_call 137;refine (eD h tb htb).mono ?_;rintro e1 w1 ⟨rfl,hp1,hf1⟩;have hx1:=HCX.out _ _ hx hba hf1.wide;have hz1:=hf1.size)
  | (go_at_call 136;refine (pX hp1 tb kd hkd).mono ?_;rintro e1 w2 ⟨rfl,hw2⟩;obtain rfl:=hw2.symm;obtain ⟨-,d1,-⟩:=hp1.cells;have z1:=hp1.frozen 1;obtain ⟨hp2,hf2⟩:=hp1.step hnx;have hF2:=(hf1.wide (X:=[C.rb])).up hf2;have hU2:=hU.carry hX hne' hF2;have hx2:=HCX.out _ _ hx hba hF2;obtain ⟨y2,-⟩:=lG hU2.at_ 1 (Value.slice ao vs.length cap) rfl;have hB2:=hF2.size)
  | (go_at_call 138;refine (qC hp2 vs.length 20 hf20).mono ?_;rintro e1 w3 ⟨q,rfl,hq⟩;exact ⟨rfl,by rw[HSP.out];exact aP.x ⟨q,rfl,hq⟩ (hF2.mono hE.hB (by simp)) (by omega) (by simp)⟩))
theorem Ef {C:dT}{B ba cb:Nat}{w:World}{i c:Nat}{nm:bB}{vs:List bJ}{rs:List (List (St 6))}(h:PS C w i c 0 0) (hE:CE C B ba cb w) (hU:Gu B cb w nm vs rs) (hv:vs.length≤20) (hr:rs.length≤i) (hk:dV (tx C.L i)≠0) (hf20:¬20≤vs.length):Calls Tryz.prog 135 #[.pointer (some ⟨ba,0,none⟩),.pointer (some ⟨cb,0,none⟩)] w (lE B [C.rb,cb] (So C B ba cb i c nm vs rs) w (iE C.L vs rs c i)):=by
 have _:=hv
 have _:=hr
 obtain ⟨v,r,xv,xr,hU⟩:=hU
 have hl6:=h.wf.len
 have hil:=h.lt
 have hx:=hE.a
 have hba:=Nat.lt_of_lt_of_le hE.la hE.hB
 have hEB:=hE.hB
 have hErb:=hE.lr
 have hEcb:=hE.lc
 have hEnc:=hE.nc
 have hEna:=hE.na
 have hEac:=hE.nac
 have hne':cb∉[C.rb]:=by simp;omega
 have hX:∀x∈[C.rb],x<B:=by simp;omega
 have HCX:Hid (∀(W W':World),W.cell? ⟨ba,0,none⟩=some (.pointer (some ⟨C.rb,0,none⟩))->ba<W.heap.size->Fr W.heap.size [C.rb] W W'->W'.cell? ⟨ba,0,none⟩=some (.pointer (some ⟨C.rb,0,none⟩))):=fun W W' h1 h2 hf=>by rw[hf.cell (p:=⟨ba,0,none⟩) h2 (by simp;omega)];exact h1
 obtain ⟨tb,htb⟩:∃tb:ByteArray,Hid (bs tb=tx C.L i):=⟨⟨(tx C.L i).toArray⟩,rfl⟩
 obtain ⟨i0,hi,hz0,hz1',hz2⟩:=info_parts Tryz.infoDecl
 obtain ⟨kd,hkd⟩:∃x,Hid (dV (bs tb)=x):=⟨_,rfl⟩
 have hk1:kd≠0:=by rw[<-hkd.out,htb.out];exact hk
 have hk2:(((kd:Nat):Int) != 0)=true:=by simp;omega
 have hne0:tx C.L i≠[]:=fun e=>by rw[e] at hk;exact hk (by decide)
 have hnx:=h.wf.next h.lt hne0
 have HKD:Hid (dV (tx C.L i)=kd):=by rw[Hid,<-htb.out];exact hkd.out
 have HSE:∀f,Hid (cZ C.L kd (i+1)=.error f)->Hid (iE C.L vs rs c i=.error f):=fun f hr=>by rw[Hid,iE,if_pos hk,if_neg (by omega),HKD.out,hr.out]
 have HSO:∀x j,Hid (cZ C.L kd (i+1)=.ok (x,j))->Hid (iE C.L vs rs c i=.ok (some (vs++[x],rs,c,j))):=fun x j hr=>by rw[Hid,iE,if_pos hk,if_neg (by omega),HKD.out,hr.out]
 have hov:w.ownsRow B 160 3 v vs.length xv:=hU.good.own (iG vs v xv) (by simp)
 obtain ⟨ao,cap,rfl⟩:=aJ hov
 clear hk hne0
 go_enter Tryz.func135,Tryz.ntmps135
 go_upto_region 6 with (first
  | (go_at_call 137;refine (eD h tb htb).mono ?_;rintro e1 w1 ⟨rfl,hp1,hf1⟩;have hx1:=HCX.out _ _ hx hba hf1.wide;have hz1:=hf1.size)
  | (go_at_call 136;refine (pX hp1 tb kd hkd).mono ?_;rintro e1 w2 ⟨rfl,hw2⟩;obtain rfl:=hw2.symm;obtain ⟨-,d1,-⟩:=hp1.cells;have z1:=hp1.frozen 1;obtain ⟨hp2,hf2⟩:=hp1.step hnx;have hF2:=(hf1.wide (X:=[C.rb])).up hf2;have hU2:=hU.carry hX hne' hF2;have hx2:=HCX.out _ _ hx hba hF2;obtain ⟨y2,-⟩:=lG hU2.at_ 1 (Value.slice ao vs.length cap) rfl;have hB2:=hF2.size)
  | (go_at_call 138;refine (jS (C:=C) vs.length 20 (by omega)).mono ?_;rintro e1 w3 ⟨rfl,hw3⟩;obtain rfl:=hw3.symm))
 clear d1 z1
 generalize (w1.setCell ⟨C.rb,1,none⟩ (.int .i64 ((i:Int)+1)))=w2 at hp2 hf2 hF2 hU2 hx2 y2 hB2 ⊢
 have hdr:Fr w2.heap.size [] w2 w2.drew:=(Fr.refl _ _ _).drew
 have hp3':=hp2.same hdr
 have hB2':=Nat.le_trans hEB hF2.size
 go_region_law
  (first
   | (refine step_append_lies _ (by rfl) _ _ _ (by rfl) B 160 i0 _ 3 32 Tryz.underlying49 hi hz0 hz1' hz2 rfl (by omega) (Value.slice ao vs.length cap) vs.length xv (by rfl) (hA4.good.own (iG vs _ xv) (by simp))
         ⟨w4'.heap.size,0,none⟩ 1 1 [.int .i64 a4.kind,sv a4.name,.int .i64 a4.first] (by rfl) (by rfl) (World.news_of_block (fr:=(0,0)) (heap_alloc_new w4' _)) (by intro x hx;simp[sv] at hx;rcases hx with rfl|rfl|rfl<;>rfl)
         (by omega) (by unfold maxLen;omega) (by omega) (by simp;omega) (w4'.heap.size+1) (by simp) ?_
      intro gg cap' w5' hown5 hgrow hat hlt5
      have hgo:∀g,(Value.slice ao vs.length cap).ownBlock=some g->B≤g:=fun g hg=>((hA4.good.own (iG vs _ xv) (by simp)).lt g hg).1
      have hU5:=CU.grow_vars (a:=a4) hA4 hEcb rfl (by rw[List.length_append];exact hown5) hgrow (by rcases hat with e1|e1;exact .inl e1.symm;exact .inr (by rw[e1];simp[Value.ownBlock]))
      have hF5:Fr B [C.rb,cb] w w5':=(((hF4.mono hEB (by simp)).alloc hB4 _).grown hgrow (by simp;omega) (fun g hg=>.inl (hgo g hg)))
      have hp5':PS C w5' j4 c 0 0:=hp4'.low hErb (((Fr.refl B [] w4').alloc hB4 _).grown hgrow (by simp;omega) (fun g hg=>.inl (hgo g hg)))
      have hb5:w5'.heap[cb]?=some (.cells #[sv nm,Value.slice ao vs.length cap,r] 52 (0,0)):=by
       rw[hgrow.block cb (by simp;omega) (fun e1=>by have:=hgo _ e1.symm;omega)];exact hA4.at_
      obtain ⟨y5,zy5⟩:=lG hb5 1 (Value.slice ao vs.length cap) rfl)
   | (go_simp
      go_at_call 139
      refine (C4 hp3' kd).mono ?_
      rintro e1 w4' h4
      rcases h4.cases with ⟨f,hr4,q,rfl,hq⟩|⟨⟨a4,j4⟩,v4,hr4,rfl,⟨hv4,hp4'⟩,hf4'⟩
      ·exact ⟨rfl,by rw[(HSE _ hr4).out];exact aP.x ⟨q,rfl,hq⟩ ((hF2.mono hEB (by simp)).drew) hB2' (by simp)⟩
      subst hv4
      have hU4:=hU2.carry hX hne' (hdr.wide.up hf4')
      have hF4:=hF2.up (hdr.wide.up hf4')
      have hx4:=HCX.out _ _ hx hba hF4
      obtain ⟨y4,zy4⟩:=lG hU4.at_ 1 (Value.slice ao vs.length cap) rfl
      have hl4:=aB hU4.at_
      have hB4:=Nat.le_trans hEB hF4.size
      have hj4:=O4 hr4.out
      have hal:Fr w4'.heap.size [] w4' (w4'.alloc (.cells #[.int .i64 a4.kind,.string ⟨a4.name.toArray⟩,.int .i64 a4.first] 160)):=(Fr.refl _ _ _).alloc (Nat.le_refl _) _
      have hA4:=hU4.carry (X:=[]) (by simp) (by simp) hal
      simp only[sv] at hA4 ⊢))
 all_goals
  go_wp2_with fail
  go_ret
  rw[(HSO _ _ hr4).out]
  have hF6:=hF5.setCell (p:=⟨cb,1,none⟩) (.inr (by simp)) (.slice (some ⟨gg,0,none⟩) (vs.length+1) cap')
  exact ⟨_,rfl,⟨rfl,by omega,by simp;omega,by omega,hp5'.put hEnc _ _,hE.low hF6,_,_,_,_,hU5⟩,hF6⟩
theorem Eg {C:dT}{B ba cb:Nat}{w:World}{i c:Nat}{nm:bB}{vs:List bJ}{rs:List (List (St 6))}(h:PS C w i c 0 0) (hE:CE C B ba cb w) (hU:Gu B cb w nm vs rs) (hv:vs.length≤20) (hr:rs.length≤i) (hk:dV (tx C.L i)=0) (hn:tx C.L i=dL):Calls Tryz.prog 135 #[.pointer (some ⟨ba,0,none⟩),.pointer (some ⟨cb,0,none⟩)] w (lE B [C.rb,cb] (So C B ba cb i c nm vs rs) w (iE C.L vs rs c i)):=by
 have _:=hv
 have _:=hr
 obtain ⟨v,r,xv,xr,hU⟩:=hU
 have hl6:=h.wf.len
 have hil:=h.lt
 have hx:=hE.a
 have hba:=Nat.lt_of_lt_of_le hE.la hE.hB
 have hEB:=hE.hB
 have hErb:=hE.lr
 have hEcb:=hE.lc
 have hEnc:=hE.nc
 have hEna:=hE.na
 have hEac:=hE.nac
 have hne':cb∉[C.rb]:=by simp;omega
 have hX:∀x∈[C.rb],x<B:=by simp;omega
 have HCX:Hid (∀(W W':World),W.cell? ⟨ba,0,none⟩=some (.pointer (some ⟨C.rb,0,none⟩))->ba<W.heap.size->Fr W.heap.size [C.rb] W W'->W'.cell? ⟨ba,0,none⟩=some (.pointer (some ⟨C.rb,0,none⟩))):=fun W W' h1 h2 hf=>by rw[hf.cell (p:=⟨ba,0,none⟩) h2 (by simp;omega)];exact h1
 obtain ⟨tb,htb⟩:∃tb:ByteArray,Hid (bs tb=tx C.L i):=⟨⟨(tx C.L i).toArray⟩,rfl⟩
 obtain ⟨i0,hi,hz0,hz1',hz2⟩:=info_parts Tryz.info210
 have hk0:Hid (dV (bs tb)=0):=by rw[Hid,htb.out];exact hk
 have HY:Hid _:=hn
 have HSE:∀f,Hid (aU C.L 6 c (i+1)=.error f)->Hid (iE C.L vs rs c i=.error f):=fun f hr=>by rw[Hid,iE,if_neg (by rw[hk];simp),if_pos hn,hr.out]
 have HSO:∀x c' j,Hid (aU C.L 6 c (i+1)=.ok (x,c',j))->Hid (iE C.L vs rs c i=.ok (some (vs,rs++[x],c',j))):=fun x c' j hr=>by rw[Hid,iE,if_neg (by rw[hk];simp),if_pos hn,hr.out]
 have hor:w.ownsRow B 210 1 r rs.length xr:=hU.good.own (dU 6 rs r xr) (by simp)
 obtain ⟨ao,cap,rfl⟩:=aJ hor
 clear hk hn
 go_enter Tryz.func135,Tryz.ntmps135
 go_upto_region 8 with (first
  | (go_at_call 137;refine (eD h tb htb).mono ?_;rintro e1 w1 ⟨rfl,hp1,hf1⟩;have hx1:=HCX.out _ _ hx hba hf1.wide;have hz1:=hf1.size)
  | (go_at_call 136;refine (pX hp1 tb 0 hk0).mono ?_;rintro e1 w2 ⟨rfl,hw2⟩;obtain rfl:=hw2.symm)
  | (go_at_call 140;refine (dM hp1 ⟨#[114,101,103,105,111,110]⟩ HY.out (by decide)).mono ?_;rintro e1 w2 ⟨rfl,hp2,hf2⟩;have hF2:=(hf1.wide (X:=[C.rb])).up hf2;have hU2:=hU.carry hX hne' hF2;have hx2:=HCX.out _ _ hx hba hF2;obtain ⟨y2,-⟩:=lG hU2.at_ 2 (Value.slice ao rs.length cap) rfl;have hB2:=hF2.size))
 have hdr:Fr w2.heap.size [] w2 w2.drew:=(Fr.refl _ _ _).drew
 have hp3':=hp2.same hdr
 have hB2':=Nat.le_trans hEB hF2.size
 go_region_law
  (first
   | (refine step_append_lies _ (by rfl) _ _ _ (by rfl) B 210 i0 _ 1 24 Tryz.underlying50 hi hz0 hz1' hz2 rfl (by omega) (Value.slice ao rs.length cap) rs.length xr (by rfl) (hA4.good.own (dU 6 rs _ xr) (by simp))
         ⟨w4'.heap.size,0,none⟩ 1 1 [.slice ao4 n4 cap4] (by rfl) (by rfl) (cell_one_new w4' _ 210) (by intro u hu;simp at hu;subst hu;rfl)
         (by omega) (by unfold maxLen;omega) (by omega) (by simp;omega) (w4'.heap.size+1) (by simp) ?_
      intro gg cap' w5' hown5 hgrow hat hlt5
      have hgo:∀g,(Value.slice ao rs.length cap).ownBlock=some g->B≤g:=fun g hg=>((hA4.good.own (dU 6 rs _ xr) (by simp)).lt g hg).1
      have hU5:=CU.grow_regions (a:=a4) (u:=.slice ao4 n4 cap4) hA4 hEcb hB2' hU2.lts (aL.carry (aY (X:=[]) (by simp) hal) 6 _ _ hv4) (by rw[List.length_append];exact hown5) hgrow (by rcases hat with e1|e1;exact .inl e1.symm;exact .inr (by rw[e1];simp[Value.ownBlock]))
      have hF5:Fr B [C.rb,cb] w w5':=(((hF4.mono hEB (by simp)).alloc hB4 _).grown hgrow (by simp;omega) (fun g hg=>.inl (hgo g hg)))
      have hp5':PS C w5' j4 c4 0 0:=hp4'.low hErb (((Fr.refl B [] w4').alloc hB4 _).grown hgrow (by simp;omega) (fun g hg=>.inl (hgo g hg)))
      have hb5:w5'.heap[cb]?=some (.cells #[sv nm,v,Value.slice ao rs.length cap] 52 (0,0)):=by
       rw[hgrow.block cb (by simp;omega) (fun e1=>by have:=hgo _ e1.symm;omega)];exact hA4.at_
      obtain ⟨y5,zy5⟩:=lG hb5 2 (Value.slice ao rs.length cap) rfl)
   | (go_simp
      go_at_call 141
      refine (Bz 6 _ (i+1) c 0 rfl hp3').mono ?_
      rintro e1 w4' h4
      rcases h4.cases with ⟨f,hr4,q,rfl,hq⟩|⟨⟨a4,c4,j4⟩,v4,hr4,rfl,⟨hv4,hp4'⟩,hf4'⟩
      ·exact ⟨rfl,by rw[(HSE _ hr4).out];exact aP.x ⟨q,rfl,hq⟩ ((hF2.mono hEB (by simp)).drew) hB2' (by simp)⟩
      obtain ⟨ao4,n4,cap4,rfl⟩:=aL.shape hv4
      have hU4:=hU2.carry hX hne' (hdr.wide.up hf4')
      have hF4:=hF2.up (hdr.wide.up hf4')
      have hx4:=HCX.out _ _ hx hba hF4
      obtain ⟨y4,zy4⟩:=lG hU4.at_ 2 (Value.slice ao rs.length cap) rfl
      have hl4:=aB hU4.at_
      have hB4:=Nat.le_trans hEB hF4.size
      have hj4:=tL _ _ _ _ _ _ hr4.out
      have hal:Fr w4'.heap.size [] w4' (w4'.alloc (.cells #[.slice ao4 n4 cap4] 210)):=(Fr.refl _ _ _).alloc (Nat.le_refl _) _
      have hA4:=hU4.carry (X:=[]) (by simp) (by simp) hal))
 all_goals
  go_wp2_with fail
  go_ret
  rw[(HSO _ _ _ hr4).out]
  have hF6:=hF5.setCell (p:=⟨cb,2,none⟩) (.inr (by simp)) (.slice (some ⟨gg,0,none⟩) (rs.length+1) cap')
  exact ⟨_,rfl,⟨rfl,by omega,by omega,by simp;omega,hp5'.put hEnc _ _,hE.low hF6,_,_,_,_,hU5⟩,hF6⟩
theorem Eh {C:dT}{B ba cb:Nat}{w:World}{i c:Nat}{nm:bB}{vs:List bJ}{rs:List (List (St 6))}(h:PS C w i c 0 0) (hE:CE C B ba cb w) (hU:Gu B cb w nm vs rs) (hv:vs.length≤20) (hr:rs.length≤i):Calls Tryz.prog 135 #[.pointer (some ⟨ba,0,none⟩),.pointer (some ⟨cb,0,none⟩)] w (lE B [C.rb,cb] (So C B ba cb i c nm vs rs) w (iE C.L vs rs c i)):=by
 by_cases hk:dV (tx C.L i)≠0
 ·by_cases hf:20≤vs.length
  ·exact Ah h hE hU hv hr hk hf
  ·exact Ef h hE hU hv hr hk hf
 ·have hk':dV (tx C.L i)=0:=by simpa using hk
  by_cases hn:tx C.L i=dL
  ·exact Eg h hE hU hv hr hk' hn
  ·exact Ag h hE hU hv hr hk' hn
end
section
open Go.RowKit Px
theorem Ph {L:List Lx.fK}{g c i:Nat}{vs:List bJ}{rs:List (List (St 6))}{f:F}(h:iE L vs rs c i=.error f):jW L (g+1) vs rs c i=.error f:=by
 rw[iE] at h
 rw[jW]
 by_cases hk:dV (tx L i)≠0
 ·rw[if_pos hk] at h ⊢
  by_cases h2:20≤vs.length
  ·rw[if_pos h2] at h ⊢;injection h with h;subst h;rfl
  ·rw[if_neg h2] at h ⊢
   split at h
   ·rename_i hs;injection h with h;subst h;rw[hs]
   ·exact absurd h (by simp)
 ·rw[if_neg hk] at h ⊢
  by_cases hr:tx L i=dL
  ·rw[if_pos hr] at h ⊢
   split at h
   ·rename_i hs;injection h with h;subst h;rw[hs]
   ·exact absurd h (by simp)
  ·rw[if_neg hr] at h;exact absurd h (by simp)
theorem Js {L:List Lx.fK}{g c i c' j:Nat}{vs vs':List bJ}{rs rs':List (List (St 6))}(h:iE L vs rs c i=.ok (some (vs',rs',c',j))):jW L (g+1) vs rs c i=jW L g vs' rs' c' j:=by
 rw[iE] at h
 rw[jW]
 by_cases hk:dV (tx L i)≠0
 ·rw[if_pos hk] at h ⊢
  by_cases h2:20≤vs.length
  ·rw[if_pos h2] at h;exact absurd h (by simp)
  ·rw[if_neg h2] at h ⊢
   split at h
   ·exact absurd h (by simp)
   ·rename_i hs
    rw[hs]
    injection h with h;injection h with h;injection h with e1 h;injection h with e2 h;injection h with e3 e4;subst e1;subst e2;subst e3;subst e4
    rfl
 ·rw[if_neg hk] at h ⊢
  by_cases hr:tx L i=dL
  ·rw[if_pos hr] at h ⊢
   split at h
   ·exact absurd h (by simp)
   ·rename_i hs
    rw[hs]
    injection h with h;injection h with h;injection h with e1 h;injection h with e2 h;injection h with e3 e4;subst e1;subst e2;subst e3;subst e4
    rfl
  ·rw[if_neg hr] at h;exact absurd h (by simp)
theorem Jt {L:List Lx.fK}{g c i:Nat}{vs:List bJ}{rs:List (List (St 6))}(h:iE L vs rs c i=.ok none):jW L (g+1) vs rs c i=if tx L i=jD then .ok (vs,rs,i+1) else .error (3,pl L i):=by
 rw[iE] at h
 rw[jW]
 by_cases hk:dV (tx L i)≠0
 ·rw[if_pos hk] at h
  by_cases h2:20≤vs.length
  ·rw[if_pos h2] at h;exact absurd h (by simp)
  ·rw[if_neg h2] at h
   split at h
   ·exact absurd h (by simp)
   ·exact absurd h (by simp)
 ·rw[if_neg hk] at h ⊢
  by_cases hr:tx L i=dL
  ·rw[if_pos hr] at h
   split at h
   ·exact absurd h (by simp)
   ·exact absurd h (by simp)
  ·rw[if_neg hr]
def aP7 (C:dT) (B ba cb:Nat) (nm:bB) (x:List bJ×List (List (St 6))×Nat) (v:Value) (w':World):Prop:=v=.tuple #[]/\(∃c',PS C w' x.2.2 c' 0 0)/\CE C B ba cb w'/\Gu B cb w' nm x.1 x.2.1
theorem Al {C:dT}{B ba cb i c:Nat}{w:World}{nm:bB}(h:PS C w i c 0 0) (hE:CE C B ba cb w) (hU:Gu B cb w nm [] []) :
    Calls Tryz.prog 134 #[.pointer (some ⟨C.rb,0,none⟩),.func (.func 135) #[] #[.pointer (some ⟨ba,0,none⟩),.pointer (some ⟨cb,0,none⟩)]] w
     (lE B [C.rb,cb] (aP7 C B ba cb nm) w (if tx C.L i=eT then jW C.L C.L.length [] [] c (i+1) else .error (3,pl C.L i))):=by
 obtain ⟨RES,hRES⟩:∃RES,RES=(if tx C.L i=eT then jW C.L C.L.length [] [] c (i+1) else .error (3,pl C.L i)):=⟨_,rfl⟩
 rw[<-hRES]
 have hX:∀x∈[C.rb],x<B:=by have:=hE.lr;simp;omega
 have hne':cb∉[C.rb]:=by have:=hE.nc;simp;omega
 have carU:∀{w1 w2:World}{vs:List bJ}{rs:List (List (St 6))},Gu B cb w1 nm vs rs->Fr w1.heap.size [C.rb] w1 w2->Gu B cb w2 nm vs rs:=by
  rintro w1 w2 vs rs ⟨v,r,xv,xr,hu⟩ hf
  exact ⟨v,r,xv,xr,hu.carry hX hne' hf⟩
 have lowE:∀{w1 w2:World},CE C B ba cb w1->Fr w1.heap.size [C.rb] w1 w2->CE C B ba cb w2:=fun h1 hf=>h1.low (hf.mono h1.hB (by simp))
 refine J1 h _ (fun g w1=>∃(vs:List bJ) (rs:List (List (St 6))) (c1 j:Nat),RES=jW C.L g vs rs c1 j/\C.L.length≤g+j/\vs.length≤20/\rs.length≤j/\PS C w1 j c1 0 0/\CE C B ba cb w1/\Gu B cb w1 nm vs rs/\Fr B [C.rb,cb] w w1)
  (fun w2=>∃(vs:List bJ) (rs:List (List (St 6))) (c1 j:Nat),RES=(if tx C.L j=jD then .ok (vs,rs,j+1) else .error (3,pl C.L j))/\PS C w2 j c1 0 0/\CE C B ba cb w2/\Gu B cb w2 nm vs rs/\Fr B [C.rb,cb] w w2) C.L.length ?_ ?_ ?_ ?_
 ·intro hn e w' ht
  rw[hRES,if_neg hn]
  exact ht.x (Fr.refl _ _ _) hE.hB (by simp)
 ·intro ho w1 hp1 hf1
  exact ⟨[],[],c,i+1,by rw[hRES,if_pos ho],by omega,by simp,by simp,hp1,lowE hE hf1,carU hU hf1,hf1.x hE.hB⟩
 ·rintro g w1 ⟨vs,rs,c1,j,hr1,hg,hv1,hrj,hp1,hE1,hU1,hf1⟩
  obtain ⟨g',rfl⟩:∃g',g=g'+1:=⟨g-1,by have:=hp1.lt;omega⟩
  refine (Eh hp1 hE1 hU1 hv1 hrj).mono ?_
  rintro e w2 h2
  rcases h2.cases with ⟨f,hr2,ht⟩|⟨o,v,hr2,rfl,hv,hf2⟩
  ·refine .inr (.inr ?_)
   obtain ⟨q,rfl,hq⟩:=ht
   refine ⟨_,rfl,?_⟩
   rw[hr1,Ph hr2.out]
   exact iN.up ⟨q,rfl,hq⟩ hf1
  ·cases o with
   | none=>
    obtain ⟨rfl,hp2,hE2,hU2⟩:=hv
    exact .inr (.inl ⟨rfl,vs,rs,c1,j,by rw[hr1,Jt hr2.out],hp2,hE2,hU2,hf1.trans hf2⟩)
   | some x=>
    obtain ⟨vs2,rs2,c2,j2⟩:=x
    obtain ⟨rfl,hlt,hl2,hl3,hp2,hE2,hU2⟩:=hv
    exact .inl ⟨rfl,g',by omega,vs2,rs2,c2,j2,by rw[hr1,Js hr2.out],by omega,hl2,hl3,hp2,hE2,hU2,hf1.trans hf2⟩
 ·rintro w2 ⟨vs,rs,c1,j,hr1,hp1,hE1,hU1,hf1⟩
  refine ⟨j,c1,hp1,fun hn e w3 ht=>?_,fun ho w3 hp3 hf3=>?_⟩
  ·rw[hr1,if_neg hn]
   exact ht.x hf1 (Nat.le_trans hE.hB hf1.size) (by simp)
  ·rw[hr1,if_pos ho]
   exact ⟨_,rfl,⟨rfl,⟨c1,hp3⟩,lowE hE1 hf3,carU hU1 hf3⟩,hf1.trans (hf3.x (Nat.le_trans hE.hB hf1.size))⟩
theorem Tryz.sizeChart:(Tryz.prog.info? 52).map (·.size)=some 3:=by kernel_rfl
theorem F5 {W:World}{g:Nat}{fc:Array Value}(hsz:fc.size=3) (hg:W.heap[g]?=some (.cells fc 52 (0,0))):(loadVar 52 ⟨g,0,none⟩).run Tryz.prog W=.ok (.agg fc) W:=
 run_loadVar_row (P:=Tryz.prog) W g 52 52 fc (0,0) _ hg Tryz.underlying52 rfl (by rw[hsz];exact Tryz.sizeChart)
theorem mL (tmps:Array Value) (W:World) (g:Nat) (fc:Array Value) (hsz:fc.size=3) (hp:tmps.getD 2 undef=.pointer (some ⟨g,0,none⟩)) (hg:W.heap[g]?=some (.cells fc 52 (0,0))) :
    (results Tryz.f90 tmps).run Tryz.prog W=.ok (.agg fc) W:=by
 have hp':tmps[2]?.getD undef=.pointer (some ⟨g,0,none⟩):=by simpa using hp
 simp[results,Tryz.results90,hp',asAddr,F5 hsz hg]
def gJ (A:Nat->Prop) (w:World) (c:fU) (v:Value):Prop:=∃a n m a' n' m',v=.agg #[sv c.name,.slice a n m,.slice a' n' m']/\lY A w c.vars (.slice a n m)/\gI A w (aL A w 6) c.regions (.slice a' n' m')
theorem CU.done {B cb:Nat}{w:World}{nm:bB}{vs:List bJ}{rs:List (List (St 6))}{v r:Value}{xv xr:List Value}(h:CU B cb w nm vs rs v r xv xr):lY (Ge B) w vs v/\gI (Ge B) w (aL (Ge B) w 6) rs r:=by
 have kp:aX (rM B [iG vs v xv,dU 6 rs r xr]) (Ge B) w w:=fun b hb _=>⟨hb.1,rfl⟩
 have o:=h.good.own
 have hs:=h.good.has
 have ow:∀x∈[iG vs v xv,dU 6 rs r xr],uX (Ge B) w x.t x.sz x.v x.n x.xs:=fun x hx=>⟨pW (o x hx),fun g hg=>((o x hx).lt g hg).1⟩
 exact ⟨⟨xv,ow (iG vs v xv) (by simp),hs (iG vs v xv) (by simp)⟩,⟨xr,ow (dU 6 rs r xr) (by simp),La kp _ _ _ _ (hs (dU 6 rs r xr) (by simp))⟩⟩
theorem vH {L:List Lx.fK}{s:bB}{f:F}(h1:tx L 0=G0) (h2:nm L 1=.ok s) (h:(if tx L 2=eT then jW L L.length [] [] 0 3 else .error (3,pl L 2))=.error f):dH L=.error f:=by
 rw[dH,if_pos h1,h2]
 simp only
 by_cases ho:tx L 2=eT
 ·rw[if_pos ho] at h ⊢;rw[h]
 ·rw[if_neg ho] at h ⊢;injection h with h;subst h;rfl
theorem xZ {L:List Lx.fK}{s:bB}{vs:List bJ}{rs:List (List (St 6))}{i:Nat}(h1:tx L 0=G0) (h2:nm L 1=.ok s) (h:(if tx L 2=eT then jW L L.length [] [] 0 3 else .error (3,pl L 2))=.ok (vs,rs,i)):dH L=if kd L i=4 then .ok ⟨s,vs,rs⟩ else .error (3,pl L i):=by
 rw[dH,if_pos h1,h2]
 simp only
 by_cases ho:tx L 2=eT
 ·rw[if_pos ho] at h ⊢;rw[h]
 ·rw[if_neg ho] at h;exact absurd h (by simp)
abbrev ZC:Array Value:=#[.string ⟨#[]⟩,.slice none 0 0,.slice none 0 0]
theorem A7 {C:dT}{w:World}(h:PS C w 0 0 0 0):Calls Tryz.prog 90 #[.pointer (some ⟨C.rb,0,none⟩)] w (uJ C (fun c v w'=>gJ (Ge w.heap.size) w' c v) w (dH C.L)):=by
 have hC:=h.lts.1
 have hmf:∀(fn:Fn) (first cap:Array Value) (w:World),(Instr.makeFunc fn first cap).run Tryz.prog w=.ok (.func fn first cap) w:=fun _ _ _ _=>rfl
 obtain ⟨hpa,hfa⟩:=h.alloc (.cells #[.pointer (some ⟨C.rb,0,none⟩)] 204)
 obtain ⟨hp0,hfb⟩:=hpa.alloc (.cells ZC 52)
 have hF0:=hfa.up hfb
 have hz0:((w.alloc (.cells #[.pointer (some ⟨C.rb,0,none⟩)] 204)).alloc (.cells ZC 52)).heap.size=w.heap.size+2:=by simp
 have x0:((w.alloc (.cells #[.pointer (some ⟨C.rb,0,none⟩)] 204)).alloc (.cells ZC 52)).cell? ⟨w.heap.size,0,none⟩=some (.pointer (some ⟨C.rb,0,none⟩)):=by simp
 have r0:((w.alloc (.cells #[.pointer (some ⟨C.rb,0,none⟩)] 204)).alloc (.cells ZC 52)).heap[w.heap.size+1]?=some (.cells ZC 52 (0,0)):=by
  have:=heap_alloc_new (w.alloc (.cells #[.pointer (some ⟨C.rb,0,none⟩)] 204)) (.cells ZC 52)
  simpa using this
 go_enter Tryz.func90,Tryz.ntmps90
 go_upto_region 1 with fail
 generalize ((w.alloc (.cells #[.pointer (some ⟨C.rb,0,none⟩)] 204)).alloc (.cells ZC 52))=W0 at hp0 hfb hF0 hz0 x0 r0 ⊢
 have HCX:Hid (∀(W W':World),W.cell? ⟨w.heap.size,0,none⟩=some (.pointer (some ⟨C.rb,0,none⟩))->w.heap.size<W.heap.size->Fr W.heap.size [C.rb] W W'->W'.cell? ⟨w.heap.size,0,none⟩=some (.pointer (some ⟨C.rb,0,none⟩))):=fun W W' h1 h2 hf=>by rw[hf.cell (p:=⟨w.heap.size,0,none⟩) h2 (by simp;omega)];exact h1
 go_wp2_with (first
  | (go_at_call 132;refine (bT hp0 ⟨#[99,104,97,114,116]⟩ G0 rfl (by decide)).mono ?_;rintro e w1 h1;rcases h1.cases with ⟨f,hr1,q,rfl,hq⟩|⟨_,v1,hr1,rfl,⟨rfl,hp1⟩,hf1⟩;(· exact ⟨rfl,by rw[dH,if_neg (aR hr1).1,<-(aR hr1).2];exact aP.up hF0 ⟨q,rfl,hq⟩⟩);have x1:=HCX.out _ _ x0 (by omega) hf1;have hz1:=hf1.size;have r1:=hf1.stays r0 (by omega))
  | (go_at_call 133;refine (eR hp1).mono ?_;rintro e w2 h2;rcases h2.cases with ⟨f,hr2,q,rfl,hq⟩|⟨s2,v2,hr2,rfl,⟨rfl,hp2⟩,hf2⟩;(· exact ⟨rfl,by rw[dH,if_pos (bF hr1),hr2.out];exact aP.up (hF0.up hf1) ⟨q,rfl,hq⟩⟩);rw[sv];have x2:=HCX.out _ _ x1 (by omega) hf2;have hz2:=hf2.size;have r2:=hf2.stays r1 (by omega);obtain ⟨hp3,hf3⟩:=hp2.alloc (.cells #[.string ⟨s2.toArray⟩,.slice none 0 0,.slice none 0 0] 52);have x3:=HCX.out _ _ x2 (by omega) hf3;have r3:=hf3.stays r2 (by omega);have b3:=heap_alloc_new w2 (.cells #[.string ⟨s2.toArray⟩,.slice none 0 0,.slice none 0 0] 52);have hF3:=((hF0.up hf1).up hf2).up hf3;have hE3:CE C (w2.heap.size+1) w.heap.size w2.heap.size (w2.alloc (.cells #[.string ⟨s2.toArray⟩,.slice none 0 0,.slice none 0 0] 52)):=⟨x3,by omega,by omega,hC,by omega,by omega,by omega,aB b3⟩;have hU3:Gu (w2.heap.size+1) w2.heap.size (w2.alloc (.cells #[.string ⟨s2.toArray⟩,.slice none 0 0,.slice none 0 0] 52)) s2 [] []:=⟨_,_,[],[],b3,⟨by intro x hx;simp only[List.mem_cons,List.not_mem_nil,or_false] at hx;rcases hx with rfl|rfl<;>exact World.ownsRow_nil _ _ _ _,by simp[iG,dU,Value.ownBlock],by intro x hx;simp only[List.mem_cons,List.not_mem_nil,or_false] at hx;rcases hx with rfl|rfl<;>rfl⟩⟩;have hbr:=Al hp3 hE3 hU3;have hz3:=hF3.size;have HTH:Hid (∀f e w5,iN (w2.heap.size+1) [C.rb,w2.heap.size] (w2.alloc (.cells #[.string ⟨s2.toArray⟩,.slice none 0 0,.slice none 0 0] 52)) f e w5->aP C w f e w5):=(fun f e w5 ⟨q,h1,h2,h3,h4⟩=>⟨q,h1,h2,Nat.le_trans hz3 h3,hF3.trans (h4.mono (by omega) (by intro x hx hlt;simp at hx ⊢;omega))⟩))
  | (go_at_call 134;refine hbr.mono ?_;rintro e w5 h5;rcases h5.cases with ⟨f,hr5,q,rfl,hq⟩|⟨⟨vs5,rs5,j5⟩,v5,hr5,rfl,⟨rfl,⟨c5,hp5⟩,hE5,v5',r5,xv5,xr5,hU5⟩,hf5⟩;(· exact ⟨rfl,by rw[vH (bF hr1) hr2.out hr5.out];exact HTH.out _ _ _ ⟨q,rfl,hq⟩⟩);have x5:=hE5.a))
 have HSP:Hid _:=xZ (bF hr1) hr2.out hr5.out
 have hF5:Fr w.heap.size [C.rb] w w5:=hF3.trans (hf5.mono (by omega) (by intro x hx hlt;simp at hx ⊢;omega))
 have r5':w5.heap[w.heap.size+1]?=some (.cells ZC 52 (0,0)):=by rw[hf5.block (w.heap.size+1) (by omega) (by simp;omega)];exact r3
 obtain ⟨q0,q1,-⟩:=hp5.cells
 obtain ⟨t0,-,-⟩:=hp5.now
 have hi0:(0:Int)≤(j5:Int):=Int.natCast_nonneg _
 have hi1:(j5:Int)<(C.L.length:Int):=by have:=hp5.lt;omega
 have hdr:∀n,Fr w5.heap.size [] w5 (w5.drewN n):=fun n=>(Fr.refl _ _ _).drewN n
 by_cases hk:kd C.L j5=4
 ·have hk4:(((kd C.L j5:Nat):Int) != 4)=false:=by simp;omega
  have HE:Hid (dH C.L=.ok ⟨s2,vs5,rs5⟩):=by rw[Hid,HSP.out,if_pos hk]
  clear hk
  have o1:w5.ownsRow (w2.heap.size+1) 160 3 v5' vs5.length xv5:=hU5.good.own (iG vs5 v5' xv5) (by simp)
  have o2:w5.ownsRow (w2.heap.size+1) 210 1 r5 rs5.length xr5:=hU5.good.own (dU 6 rs5 r5 xr5) (by simp)
  obtain ⟨a1,m1,rfl⟩:=aJ o1
  obtain ⟨a2,m2,rfl⟩:=aJ o2
  go_quiet (fail)
  have hUq:=hU5.carry (X:=[]) (by simp) (by simp) (hdr nq)
  have hFq:Fr w.heap.size [C.rb] w (w5.drewN nq):=hF5.up (hdr nq).wide
  have rq:(w5.drewN nq).heap[w.heap.size+1]?=some (.cells ZC 52 (0,0)):=by rw[(hdr nq).block _ (aB r5') (by simp)];exact r5'
  have hz5:=hf5.size
  generalize w5.drewN nq=w6 at hUq hFq rq ⊢
  go_wp2_with (first
   | (refine bP rfl 52 (.tmp 3) rfl ⟨w2.heap.size,0,none⟩ rfl (.agg #[sv s2,.slice a1 vs5.length m1,.slice a2 rs5.length m2]) (F5 rfl hUq.at_) ?_)
   | (refine wpList_store_row rfl 52 (.tmp 2) (.tmp 26) rfl (w.heap.size+1) #[sv s2,.slice a1 vs5.length m1,.slice a2 rs5.length m2] rfl rfl 52 _ rq Tryz.sizeChart rfl (by simp[Value.oneCell',sv]) ?_))
  refine bodyPost_ret (mL _ _ (w.heap.size+1) #[sv s2,.slice a1 vs5.length m1,.slice a2 rs5.length m2] rfl rfl (setRow_heap _ _ _ _ _ _ rq)) rfl ?_
  rw[HE.out]
  obtain ⟨d1,d2⟩:=hUq.done
  have hfr:=rI w6 (w.heap.size+1) #[sv s2,.slice a1 vs5.length m1,.slice a2 rs5.length m2]
  have kp:aX (Ge (w2.heap.size+1)) (Ge w.heap.size) w6 (w6.setRow (w.heap.size+1) #[sv s2,.slice a1 vs5.length m1,.slice a2 rs5.length m2]):=fun b hb hlt=>⟨by simp[Ge] at *;omega,hfr.block b hlt (by simp[Ge] at *;omega)⟩
  exact ⟨_,rfl,⟨a1,_,m1,a2,_,m2,rfl,d1.carry kp,d2.carry kp (aL.carry kp 6)⟩,hFq.row (.inl (by omega)) _⟩
 ·have hk4:(((kd C.L j5:Nat):Int) != 4)=true:=by simp;omega
  have HE:Hid (dH C.L=.error (3,pl C.L j5)):=by rw[Hid,HSP.out,if_neg hk]
  clear hk
  go_quiet (fail)
  have hpq:=hp5.same (hdr nq)
  have xq:=HCX.out _ _ x5 (by have:=hF5.size;have:=hf5.size;have:=aB r5';omega) (hdr nq).wide
  go_wp2_with (go_at_call 142;refine (gR hpq 3).mono ?_;rintro e w6 ⟨q,rfl,hq⟩;exact ⟨rfl,by rw[HE.out];exact aP.up (hF5.up (hdr nq).wide) ⟨q,rfl,hq⟩⟩)
end
end Go.Proofs.YtcdbhoknhnimcaaGreatDoor
