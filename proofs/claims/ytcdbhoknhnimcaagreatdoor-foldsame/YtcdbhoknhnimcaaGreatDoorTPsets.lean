import Derived.Test.YtcdbhoknhnimcaaGreatDoorTSmall
import Derived.Test.YtcdbhoknhnimcaaGreatDoorTPone
import Derived.Lib.AtoiErrMem
import Derived.Test.YtcdbhoknhnimcaaGreatDoorTRead
import Derived.Maps.AppendAt
set_option maxRecDepth 100000
set_option maxHeartbeats 4000000
namespace Go.Proofs.YtcdbhoknhnimcaaGreatDoor
section
open Go.RowKit Px
def aB8 (a:Nat) (s:bB):Nat:=s.foldl (fun n c=>n*10+(c.toNat-48)) a
theorem Yg (l:bB):∀(a:Nat),(∀c∈l,48≤c.toNat/\c.toNat≤57)->(a+1)*10 ^ l.length≤10 ^ 18->Lib.parseUintM (2 ^ 64-1) a l=.ok (aB8 a l)/\aB8 a l<10 ^ 18:=by
 induction l with
 | nil=>intro a _ h;exact ⟨rfl,by simp at h;show a<10 ^ 18;omega⟩
 | cons c r ih=>
  intro a hd h
  obtain ⟨h1,h2⟩:=hd c (by simp)
  have hp:0<10 ^ r.length:=Nat.pow_pos (by decide)
  have e:(a+1)*10 ^ (c::r).length=((a+1)*10)*10 ^ r.length:=by rw[List.length_cons,Nat.pow_succ];rw[Nat.mul_assoc,Nat.mul_comm (10 ^ r.length) 10]
  rw[e] at h
  have hle:(a*10+(c.toNat-48)+1)*10 ^ r.length≤10 ^ 18:=Nat.le_trans (Nat.mul_le_mul_right _ (by omega)) h
  have ha:(a+1)*10≤10 ^ 18:=Nat.le_trans (Nat.le_mul_of_pos_right _ hp) h
  have hb:a*10+(c.toNat-48)+1≤10 ^ 18:=Nat.le_trans (Nat.le_mul_of_pos_right _ hp) hle
  have:=ih (a*10+(c.toNat-48)) (fun x hx=>hd x (by simp[hx])) hle
  rw[Lib.parseUintM,if_pos ⟨h1,h2⟩,if_neg (by omega),if_neg (by omega)]
  exact this
theorem nG (l:bB) (hne:l≠[]) (hd:∀c∈l,48≤c.toNat/\c.toNat≤57) (hl:l.length≤18):Lib.parseIntB 64 l=.ok ((val l:Nat):Int)/\val l<10 ^ 18:=by
 have hp:(0+1)*10 ^ l.length≤10 ^ 18:=by rw[Nat.zero_add,Nat.one_mul];exact Nat.pow_le_pow_right (by decide) hl
 obtain ⟨h1,h2⟩:=Yg l 0 hd hp
 refine ⟨?_,h2⟩
 cases l with
 | nil=>exact absurd rfl hne
 | cons c r=>
  obtain ⟨h3,h4⟩:=hd c (by simp)
  have e:Lib.parseUintB 64 (c::r)=.ok (val (c::r)):=by rw[Lib.parseUintB,if_neg (by simp)];exact h1
  have h2':val (c::r)<10 ^ 18:=h2
  simp only[Lib.parseIntB]
  rw[if_neg (show ¬(c.toNat=43\/c.toNat=45) by omega),e]
  simp only
  rw[if_neg (by omega),if_neg (by omega),if_neg (by omega)]
section
variable {C:dT}{w:World}{i st ins und:Nat}
theorem dB (w:World) (i st ins und:Nat) (h:PS C w i st ins und):Calls Tryz.prog 190 #[.pointer (some ⟨C.rb,0,none⟩)] w (uJ C (fun (n:Nat) v w'=>v=.int .i64 n/\n<10 ^ 18/\PS C w' (i+1) st ins und) w (bM C.L i)):=by
 obtain ⟨c0,c1,-⟩:=h.cells
 obtain ⟨t0,t1,t2⟩:=h.now
 obtain ⟨l1,l2⟩:=h.lts
 have hi0:(0:Int)≤(i:Int):=Int.natCast_nonneg _
 have hi1:(i:Int)<(C.L.length:Int):=by have:=h.lt;omega
 have h6:=h.wf.len
 obtain ⟨tb,htb⟩:∃tb:ByteArray,Hid (tb=⟨(tx C.L i).toArray⟩):=⟨_,rfl⟩
 have hbs:Hid (tb.data.toList=tx C.L i):=by rw[Hid,htb.out]
 rw[sv,<-htb.out] at t1
 by_cases hk:kd C.L i=2
 ·have hk':((kd C.L i:Nat):Int)=2:=by omega
  rw[hk'] at t0
  have H:Hid (bM C.L i=.ok (val (tx C.L i))):=if_pos hk
  have hlt:=h.wf.nextk h.lt (by rw[hk];decide)
  obtain ⟨n1,n2,n3⟩:=h.wf.num i hk
  obtain ⟨hv,hv2⟩:=nG _ n3 n1 n2
  obtain ⟨m,hm⟩:∃m,Hid (m=val (tx C.L i)):=⟨_,rfl⟩
  have hts:tb.size≤18:=by
   have:=congrArg List.length hbs.out
   rw[<-fJ tb]
   exact Nat.le_trans (Nat.le_of_eq this) n2
  rw[<-hm.out,<-hbs.out] at hv
  have hpi:=fun w=>Tryz.strconv_ParseInt_10_at64_ok tb (by omega) m hv w
  clear hv n1 n2 n3 hk hk'
  go_enter Tryz.func190,Tryz.ntmps190
  go_wp2
  go_region
  obtain ⟨hn,hfn⟩:=h.new (.cells #[.int .i64 2,.string tb,.int .i64 (pl C.L i)] 203)
  obtain ⟨e0,e1,e2⟩:=zF w (.int .i64 2) (.string tb) (.int .i64 (pl C.L i)) 203
  generalize (w.alloc (.cells #[.int .i64 2,.string tb,.int .i64 (pl C.L i)] 203)).drew=w1 at hn hfn e0 e1 e2 ⊢
  clear c0 c1 t0 t1 t2 e2
  go_wp2_with (go_at_call 222;refine (hpi _).mono ?_;rintro e w2 ⟨rfl,hw2⟩;have hb2:Below w1.heap.size w1 w2:=(by (rcases hw2 with rfl|⟨t,rfl⟩;exact Below.refl _ _;exact Lib.bytesWorld_below _ _ _));clear hw2;have hf2:=Fr.of_below hb2 [];have hp2:=hn.same hf2;obtain ⟨-,d1,-⟩:=hp2.cells;have z1:=hp2.frozen 1)
  go_ret
  rw[H.out]
  have hset:=hp2.step hlt
  exact ⟨_,rfl,⟨by rw[<-hm.out];rfl,hv2,hset.1⟩,((hfn.wide (X:=[C.rb])).up hf2.wide).up hset.2⟩
 ·have hk':¬((kd C.L i:Nat):Int)=2:=by omega
  have hk'':(((kd C.L i:Nat):Int) != 2)=true:=by simpa using hk'
  have H:Hid (bM C.L i=.error (3,pl C.L i)):=if_neg hk
  clear hk
  go_enter Tryz.func190,Tryz.ntmps190
  go_wp2
  go_region
  obtain ⟨hn,hfn⟩:=h.new (.cells #[.int .i64 (kd C.L i),.string tb,.int .i64 (pl C.L i)] 203)
  go_wp2_with (go_at_call 142;refine (gR hn 3).mono ?_;rintro e w2 ⟨q,rfl,ht⟩)
  rw[H.out]
  exact ⟨rfl,aP.up hfn.wide ⟨q,rfl,ht⟩⟩
end
theorem bF {L:List Lx.fK}{s:bB}{i:Nat}{a:Unit}(h:Hid (vD L s i=.ok a)):tx L i=s:=by
 have h:=h.out
 rw[vD] at h
 split at h
 ·assumption
 ·exact absurd h (by simp)
theorem aR {L:List Lx.fK}{s:bB}{i:Nat}{f:F}(h:Hid (vD L s i=.error f)):tx L i≠s/\f=(3,pl L i):=by
 have h:=h.out
 rw[vD] at h
 split at h
 ·exact absurd h (by simp)
 ·injection h with h;exact ⟨by assumption,h.symm⟩
theorem Un {C:dT}{k:Nat}(w:World) (i st ins und:Nat) (hu:und+(k+1)=7) (h:PS C w i st ins und) (hc0:bG (tx C.L i)=0) (hpar:tx C.L i≠F8) (hpre:tx C.L i=Pb):Calls Tryz.prog 277 #[.pointer (some ⟨C.rb,0,none⟩)] w (uJ C (Sz C w st ins und) w (one C.L (k+1) i)):=by
 obtain ⟨-,-,-,-,c4⟩:=h.cells
 obtain ⟨tb,htb⟩:∃tb:ByteArray,Hid (bs tb=tx C.L i):=⟨⟨(tx C.L i).toArray⟩,rfl⟩
 have hcc:Hid (bG (bs tb)=0):=by rw[Hid,htb.out];exact hc0
 have hb:=fun w=>jS (C:=C) (w:=w) und 7 (by omega)
 have HO:Hid (one C.L (k+1) i=if tx C.L (i+1)=F8 then (match nm C.L (i+2) with | .error x=>.error x | .ok s=>if tx C.L (i+3)=Dc then .ok (sM 3 s,i+4) else .error (3,pl C.L (i+3))) else .error (3,pl C.L (i+1))):=by
  rw[Hid,one,if_neg (by simp[hc0]),if_neg hpar,if_pos hpre]
  split
  ·cases nm C.L (i+2)<;>rfl
  ·rfl
 have HP:Hid _:=hpar
 have HQ:Hid _:=hpre
 clear hc0 hpar hpre
 have T1:Hid True:=trivial
 have T2:Hid True:=trivial
 go_enter Tryz.func277,Tryz.ntmps277
 go_wp2_with (first
  | (go_at_call 138;refine (hb _).mono ?_;rintro e w' ⟨rfl,hw⟩;obtain rfl:=hw.symm)
  | (go_at_call 137;refine (eD h tb htb).mono ?_;rintro e w2 ⟨rfl,hp2,hf2⟩)
  | (go_at_call 281;refine (jR hp2 tb 0 hcc).mono ?_;rintro e w3 ⟨rfl,hp3,hf3⟩)
  | (go_at_call 140;clear T1;refine (cG hp3 ⟨#[40]⟩ HP.out).mono ?_;rintro e w4 ⟨rfl,hp4,hf4⟩)
  | (go_at_call 140;refine (dM hp4 ⟨#[112,114,101]⟩ HQ.out (by decide)).mono ?_;rintro e w5 ⟨rfl,hp5,hf5⟩;have hF5:=(((hf2.wide (X:=[C.rb])).up hf3.wide).up hf4.wide).up hf5)
  | (go_at_call 132;clear T2;refine (bT hp5 ⟨#[40]⟩ F8 rfl (by decide)).mono ?_;rintro e w6 h6;rcases h6.cases with ⟨f,hr6,q,rfl,hq⟩|⟨_,v6,hr6,rfl,⟨rfl,hp6⟩,hf6⟩;(· exact ⟨rfl,by rw[HO.out,if_neg (aR hr6).1,<-(aR hr6).2];exact aP.up hF5 ⟨q,rfl,hq⟩⟩))
  | (go_at_call 133;refine (eR hp6).mono ?_;rintro e w7 h7;rcases h7.cases with ⟨f,hr7,q,rfl,hq⟩|⟨s7,v7,hr7,rfl,⟨rfl,hp7⟩,hf7⟩;(· exact ⟨rfl,by rw[HO.out,if_pos (bF hr6),hr7.out];exact aP.up (hF5.up hf6) ⟨q,rfl,hq⟩⟩);rw[sv];obtain ⟨hp8,hf8⟩:=hp7.alloc (.cells #[.int .i64 3,.int .i64 0,.string ⟨s7.toArray⟩,.pointer none,.pointer none] 335))
  | (go_at_call 132;refine (bT hp8 ⟨#[41]⟩ Dc rfl (by decide)).mono ?_;rintro e w9 h9;rcases h9.cases with ⟨f,hr9,q,rfl,hq⟩|⟨_,v9,hr9,rfl,⟨rfl,hp9⟩,hf9⟩;(· exact ⟨rfl,by rw[HO.out,if_pos (bF hr6),hr7.out];simp only;rw[if_neg (aR hr9).1,<-(aR hr9).2];exact aP.up (((hF5.up hf6).up hf7).up hf8) ⟨q,rfl,hq⟩⟩)))
 go_ret
 rw[HO.out,if_pos (bF hr6),hr7.out]
 simp only
 rw[if_pos (bF hr9)]
 have hv:jI (Ge w.heap.size) _ (sM 3 s7) (.pointer (some ⟨w7.heap.size,0,none⟩)):=xP rfl ((hF5.up hf6).up hf7).size rfl
 exact ⟨_,rfl,⟨hv.carry (tP h.lts.1 hf9),hp9⟩,(((hF5.up hf6).up hf7).up hf8).up hf9⟩
theorem Uq {C:dT}{k:Nat}(w:World) (i st ins und:Nat) (hu:und+(k+1)=7) (h:PS C w i st ins und) (hc0:bG (tx C.L i)=0) (hpar:tx C.L i≠F8) (hpre:tx C.L i≠Pb) (hk:kd C.L i=2):Calls Tryz.prog 277 #[.pointer (some ⟨C.rb,0,none⟩)] w (uJ C (Sz C w st ins und) w (one C.L (k+1) i)):=by
 obtain ⟨-,-,-,-,c4⟩:=h.cells
 obtain ⟨tb,htb⟩:∃tb:ByteArray,Hid (bs tb=tx C.L i):=⟨⟨(tx C.L i).toArray⟩,rfl⟩
 have hcc:Hid (bG (bs tb)=0):=by rw[Hid,htb.out];exact hc0
 have hb:=fun w=>jS (C:=C) (w:=w) und 7 (by omega)
 have HO:Hid (one C.L (k+1) i=.ok (Wc (val (tx C.L i)),i+1)):=by
  rw[Hid,one,if_neg (by simp[hc0]),if_neg hpar,if_neg hpre,if_pos hk]
 have HN:Hid (bM C.L i=.ok (val (tx C.L i))):=if_pos hk
 have HK:Hid _:=hk
 have HP:Hid _:=hpar
 have HQ:Hid _:=hpre
 have hi0:(0:Int)≤(i:Int):=Int.natCast_nonneg _
 have hi1:(i:Int)<(C.L.length:Int):=by have:=h.lt;omega
 clear hc0 hpar hpre hk
 have T1:Hid True:=trivial
 go_enter Tryz.func277,Tryz.ntmps277
 go_wp2_with (first
  | (go_at_call 138;refine (hb _).mono ?_;rintro e w' ⟨rfl,hw⟩;obtain rfl:=hw.symm)
  | (go_at_call 137;refine (eD h tb htb).mono ?_;rintro e w2 ⟨rfl,hp2,hf2⟩)
  | (go_at_call 281;refine (jR hp2 tb 0 hcc).mono ?_;rintro e w3 ⟨rfl,hp3,hf3⟩)
  | (go_at_call 140;clear T1;refine (cG hp3 ⟨#[40]⟩ HP.out).mono ?_;rintro e w4 ⟨rfl,hp4,hf4⟩)
  | (go_at_call 140;refine (cG hp4 ⟨#[112,114,101]⟩ HQ.out).mono ?_;rintro e w5 ⟨rfl,hp5,hf5⟩;obtain ⟨d0,d1,-⟩:=hp5.cells;obtain ⟨t0,-,-⟩:=hp5.now;rw[HK.out] at t0))
 go_quiet (fail)
 have hf6:=(Fr.refl w5.heap.size [] w5).drewN nq
 have hp6:=hp5.same hf6
 go_wp2_with (go_at_call 190;refine (dB _ i st ins und hp6).mono ?_;rintro e w7 h7;rw[HN.out] at h7;obtain ⟨v7,rfl,⟨rfl,-,hp7⟩,hf7⟩:=h7)
 go_ret
 rw[HO.out]
 obtain ⟨hp8,hf8⟩:=hp7.alloc (.cells #[.int .i64 1,.int .i64 (val (tx C.L i)),.string ⟨#[]⟩,.pointer none,.pointer none] 335)
 have hF:=((((hf2.wide (X:=[C.rb])).up hf3.wide).up hf4.wide).up hf5.wide).up hf6.wide
 exact ⟨_,rfl,⟨xP rfl (hF.up hf7).size rfl,hp8⟩,(hF.up hf7).up hf8⟩
theorem Oa {C:dT}{k:Nat}(w:World) (i st ins und:Nat) (hu:und+(k+1)=7) (h:PS C w i st ins und) (hc0:bG (tx C.L i)=0) (hpar:tx C.L i≠F8) (hpre:tx C.L i≠Pb) (hk:kd C.L i≠2):Calls Tryz.prog 277 #[.pointer (some ⟨C.rb,0,none⟩)] w (uJ C (Sz C w st ins und) w (one C.L (k+1) i)):=by
 obtain ⟨-,-,-,-,c4⟩:=h.cells
 obtain ⟨tb,htb⟩:∃tb:ByteArray,Hid (bs tb=tx C.L i):=⟨⟨(tx C.L i).toArray⟩,rfl⟩
 have hcc:Hid (bG (bs tb)=0):=by rw[Hid,htb.out];exact hc0
 have hb:=fun w=>jS (C:=C) (w:=w) und 7 (by omega)
 have HE:∀f,Hid (nm C.L i=.error f)->Hid (one C.L (k+1) i=.error f):=fun f hr=>by rw[Hid,one,if_neg (by simp[hc0]),if_neg hpar,if_neg hpre,if_neg hk,hr.out]
 have HO:∀s,Hid (nm C.L i=.ok s)->Hid (one C.L (k+1) i=.ok (sM 2 s,i+1)):=fun s hr=>by rw[Hid,one,if_neg (by simp[hc0]),if_neg hpar,if_neg hpre,if_neg hk,hr.out]
 have hk1:¬((kd C.L i:Nat):Int)=2:=by omega
 have hk2:(((kd C.L i:Nat):Int)==2)=false:=by simpa using hk1
 have HP:Hid _:=hpar
 have HQ:Hid _:=hpre
 have hi0:(0:Int)≤(i:Int):=Int.natCast_nonneg _
 have hi1:(i:Int)<(C.L.length:Int):=by have:=h.lt;omega
 clear hc0 hpar hpre hk
 have T1:Hid True:=trivial
 go_enter Tryz.func277,Tryz.ntmps277
 go_wp2_with (first
  | (go_at_call 138;refine (hb _).mono ?_;rintro e w' ⟨rfl,hw⟩;obtain rfl:=hw.symm)
  | (go_at_call 137;refine (eD h tb htb).mono ?_;rintro e w2 ⟨rfl,hp2,hf2⟩)
  | (go_at_call 281;refine (jR hp2 tb 0 hcc).mono ?_;rintro e w3 ⟨rfl,hp3,hf3⟩)
  | (go_at_call 140;clear T1;refine (cG hp3 ⟨#[40]⟩ HP.out).mono ?_;rintro e w4 ⟨rfl,hp4,hf4⟩)
  | (go_at_call 140;refine (cG hp4 ⟨#[112,114,101]⟩ HQ.out).mono ?_;rintro e w5 ⟨rfl,hp5,hf5⟩;obtain ⟨d0,d1,-⟩:=hp5.cells;obtain ⟨t0,-,-⟩:=hp5.now))
 go_quiet (fail)
 have hf6:=(Fr.refl w5.heap.size [] w5).drewN nq
 have hp6:=hp5.same hf6
 have hF:=((((hf2.wide (X:=[C.rb])).up hf3.wide).up hf4.wide).up hf5.wide).up hf6.wide
 go_wp2_with (go_at_call 133;refine (eR hp6).mono ?_;rintro e w7 h7;rcases h7.cases with ⟨f,hr7,q,rfl,hq⟩|⟨s7,v7,hr7,rfl,⟨rfl,hp7⟩,hf7⟩;(· exact ⟨rfl,by rw[(HE _ hr7).out];exact aP.up hF ⟨q,rfl,hq⟩⟩);rw[sv])
 go_ret
 rw[(HO _ hr7).out]
 obtain ⟨hp8,hf8⟩:=hp7.alloc (.cells #[.int .i64 2,.int .i64 0,.string ⟨s7.toArray⟩,.pointer none,.pointer none] 335)
 exact ⟨_,rfl,⟨xP rfl (hF.up hf7).size rfl,hp8⟩,(hF.up hf7).up hf8⟩
theorem Nz {C:dT}{k:Nat}(ho:One C k) (hch:yK C k 5):One C (k+1):=by
 intro w i st ins und hu h
 by_cases hc0:bG (tx C.L i)=0
 ·by_cases hpar:tx C.L i=F8
  ·exact Uo hch w i st ins und hu h hc0 hpar
  ·by_cases hpre:tx C.L i=Pb
   ·exact Un w i st ins und hu h hc0 hpar hpre
   ·by_cases hk:kd C.L i=2
    ·exact Uq w i st ins und hu h hc0 hpar hpre hk
    ·exact Oa w i st ins und hu h hc0 hpar hpre hk
 ·exact Iw ho w i st ins und hu h hc0
theorem A8 {C:dT}{k:Nat}(ho:One C k):∀t,t≤5->yK C k t:=by
 intro t
 induction t with
 | zero=>intro _;exact Ei ho
 | succ t ih=>intro ht;exact Ej (by omega) (ih (by omega))
theorem Ur {C:dT}:∀k,One C k:=by
 intro k
 induction k with
 | zero=>exact Ny
 | succ k ih=>exact Nz ih (A8 ih 5 (Nat.le_refl _))
theorem kS {C:dT}{w:World}{i st ins:Nat}(h:PS C w i st ins 0):Calls Tryz.prog 254 #[.pointer (some ⟨C.rb,0,none⟩)] w (uJ C (Sz C w st ins 0) w (eK C.L i)):=
 xI (A8 (Ur 7) 5 (Nat.le_refl _)) w i st ins 0 (by omega) h
end
section
open Go.RowKit
def rQ (t:Lx.fK):List Value:=[.int .i64 t.kind,.string ⟨t.text.toArray⟩,.int .i64 t.place]
def cells (l:List Lx.fK):List Value:=l.flatMap rQ
theorem yB (l:List Lx.fK) (t:Lx.fK):cells (l++[t])=cells l++rQ t:=by simp[cells]
theorem Iq {w w':World}{B e size n:Nat}{v:Value}{xs:List Value}(h:w.ownsRow B e size v n xs) (hb:Below w.heap.size w w'):w'.ownsRow B e size v n xs:=by
 refine ⟨h.1,?_⟩
 rcases h.2 with hn|⟨g,cap,cur,rfl,hg,hgg,rest⟩
 ·exact .inl hn
 ·exact .inr ⟨g,cap,cur,rfl,hg,by rw[hb.block g (Array.getElem?_eq_some_iff.1 hgg).1];exact hgg,rest⟩
theorem pH (w:World) (a b c:Value) (t:TypeId):∀j u,[a,b,c][j]?=some u->(w.alloc (.cells #[a,b,c] t)).cell? ((⟨w.heap.size,0,none⟩:Addr).add j)=some u:=by
 intro j u hj
 match j,hj with
 | 0,hj=>simp at hj;subst hj;simp[Addr.add]
 | 1,hj=>simp at hj;subst hj;simp[Addr.add]
 | 2,hj=>simp at hj;subst hj;simp[Addr.add]
 | j+3,hj=>simp at hj
theorem cM {w:World}{b o:Nat}{v:Value}(h:w.cell? ⟨b,o,none⟩=some v):b<w.heap.size:=by
 rcases Nat.lt_or_ge b w.heap.size with h'|h'
 ·exact h'
 ·simp[World.cell?,Array.getElem?_eq_none h'] at h
theorem lA.lt {w:World}(h:lA w):0<w.heap.size:=cM (h 0 (by decide))
theorem lA.below {w w':World}{B:Nat}(h:lA w) (hB:w.heap.size≤B) (hb:Below B w w'):lA w':=fun i hi=>by
 rw[hb.cell (p:=⟨0,i,none⟩) (Nat.lt_of_lt_of_le h.lt hB)];exact h i hi
theorem Tryz.info203:(Tryz.prog.info? 203).map (fun i=>(i.zero,i.size,i.bytes))=some (some (.agg #[.int .i64 0,.string ⟨#[]⟩,.int .i64 0]),3,32):=by kernel_rfl
theorem Ks (s:ByteArray) (w:World) (hs:s.size≤1000000) :
    Calls Tryz.prog 131 #[.string s] w fun e w'=>e=.returned (.string s)/\Below w.heap.size w w':=by
 go_enter Tryz.func131,Tryz.ntmps131
 go_wp2_with (go_at_call 188;refine (Tryz.stringslite_Clone s _ (by omega)).mono ?_;rintro e w' ⟨rfl,hb⟩)
 go_ret
 exact ⟨rfl,hb⟩
def Split (s:ByteArray) (w:World) (v err:Value) (w':World):Prop:=
 Below w.heap.size w w'/\
 ((∃l,Lx.Ok (bs s) l/\err=.nilIface/\w'.ownsRow w.heap.size 203 3 v (l.length+1) (cells (l++[⟨4,[],s.size⟩]))) \/
  (∃e q g,Lx.Bad (bs s) e q/\q≤s.size/\v=.slice none 0 0/\err=.iface 115 (.pointer (some ⟨g,0,none⟩))/\w.heap.size≤g/\w'.heap[g]?=some (.cells #[.int .i64 e,.int .i64 q] 117 (0,0))))
theorem aJ {w:World}{B e size n:Nat}{v:Value}{xs:List Value}(h:w.ownsRow B e size v n xs):∃ao cap,v=.slice ao n cap:=by
 rcases h.2 with ⟨rfl,rfl⟩|⟨g,cap,cur,rfl,_⟩
 ·exact ⟨none,0,rfl⟩
 ·exact ⟨_,cap,rfl⟩
theorem Fa (s:ByteArray) (a kd ln en:Nat) (w:World) (hs:s.size≤1000000) (ha:a<s.size) (hm:lA w) (h:Hid (Lx.rd ((bs s).drop a)=(kd,ln))) (he:Hid (en=a+ln)) :
    Calls Tryz.prog 129 #[.string s,.int .i64 a] w fun e w'=>e=.returned (.tuple #[.int .i64 kd,.int .i64 en])/\w'=w:=by
 refine (Nf s a w hs ha hm).mono ?_
 rintro e w' ⟨rfl,rfl⟩
 exact ⟨by rw[h.out,he.out],rfl⟩
theorem G8 (s:ByteArray) (a b:Nat):(s.extract a b).size≤s.size:=by
 rw[ByteArray.size_extract];omega
theorem Ey (a b:Int) (s:ByteArray):∀u∈[Value.int .i64 a,.string s,.int .i64 b],u.oneCell'=true:=by
 intro u hu;simp at hu;rcases hu with rfl|rfl|rfl<;>rfl
theorem Bq {s:ByteArray}{w wr w1 w2:World}{l:List Lx.fK}{k a kd ln en:Nat}{v v':Value}{o:Obj}(hen:en=a+ln) (hto:Lx.To (bs s) l k) (hn:l.length≤600) (ha:a=Lx.fH (bs s) k) (hlt:a<s.size)
    (hrd:Lx.rd ((bs s).drop a)=(kd,ln)) (hf:Lx.Kf kd ln l.length=0) (hbw:Below w.heap.size w wr) (hown:wr.ownsRow w.heap.size 203 3 v l.length (cells l)) (hb1:Below wr.heap.size wr w1)
    (hown':w2.ownsRow w.heap.size 203 3 v' (l.length+1) (cells l++[.int .i64 kd,.string (s.extract a en),.int .i64 a])) (hg:(w1.alloc o).grownBy w2 v.ownBlock) :
    ∃l':List Lx.fK,Lx.To (bs s) l' en/\l'.length≤600/\w2.ownsRow w.heap.size 203 3 v' l'.length (cells l')/\Below w.heap.size w w2/\0<ln:=by
 subst hen
 have h0:kd≠0:=by
  intro h;rw[h] at hf;simp[Lx.Kf] at hf
 have h1:¬(kd=2/\18<ln):=by
  intro h;rw[Lx.Kf,if_neg h0,if_pos h] at hf;exact absurd hf (by decide)
 have h2:¬600≤l.length:=by
  intro h;rw[Lx.Kf,if_neg h0,if_neg h1,if_pos h] at hf;exact absurd hf (by decide)
 have e1:(Lx.rd ((bs s).drop a)).1=kd:=by rw[hrd]
 have e2:(Lx.rd ((bs s).drop a)).2=ln:=by rw[hrd]
 have st:=Lx.Wq hto ha (by rw[fJ];exact hlt) (by rw[e1];exact h0) (by rw[e1,e2];exact h1)
 rw[e1,e2] at st
 have hpos:=Lx.Yd ((bs s).drop a) (by rw[e1];exact h0)
 have hle:=Lx.Nh ((bs s).drop a)
 rw[e2] at hpos hle
 rw[List.length_drop,fJ] at hle
 refine ⟨_,st,by simp;omega,?_,?_,hpos⟩
 ·have ec:rQ ⟨kd,((bs s).drop a).take ln,a⟩=[.int .i64 kd,.string (s.extract a (a+ln)),.int .i64 a]:=by
   have:(⟨(((bs s).drop a).take ln).toArray⟩:ByteArray)=s.extract a (a+ln):=by
    have hx:=yD s a (a+ln)
    rw[Nat.add_sub_cancel_left] at hx
    rw[<-hx]
   simp only[rQ,this]
  rw[yB,ec,List.length_append]
  exact hown'
 ·refine Below.grown ((hbw.trans (hb1.mono hbw.size)).alloc ?_ _) hg ?_ ?_
  ·exact Nat.le_trans hbw.size hb1.size
  ·have:=hbw.size;have:=hb1.size;simp;omega
  ·intro j hj;have:=(hown.lt _ hj).1;omega
theorem zH (s:ByteArray) (w:World) (hs:s.size≤1000000) (hm:lA w) :
    Calls Tryz.prog 88 #[.string s] w fun e w'=>∃v err,e=.returned (.tuple #[v,err])/\Split s w v err w':=by
 obtain ⟨i0,hi,hz0,hz1,hz2⟩:=info_parts Tryz.info203
 have hsk0:=Lx.zJ (s:=bs s) (k:=0) (by omega)
 rw[fJ] at hsk0
 go_enter Tryz.func88,Tryz.ntmps88
 go_wp2_with (go_at_call 128;refine (R7 s 0 _ hs (by omega)).mono ?_;rintro e w' ⟨rfl,hw⟩;obtain rfl:=hw.symm)
 go_loopw [4,5] (fun v i wr=>∃(l:List Lx.fK) (k a:Nat),Lx.To (bs s) l k/\l.length≤600/\Hid (a=Lx.fH (bs s) k)/\a≤s.size/\i=.int .i64 a/\wr.ownsRow w.heap.size 203 3 v l.length (cells l)/\Below w.heap.size w wr) (fun _ i _=>s.size-(intOf i).toNat)
 case atStart=>exact ⟨[],0,_,Lx.Wp _,by simp,rfl,hsk0.2,rfl,World.ownsRow_nil _ _ _ _,Below.refl _ _⟩
 case round=>
  obtain ⟨l,k,a,hto,hn,ha,hale,rfl,hown,hbw⟩:=hrel
  obtain ⟨ao,cap,rfl⟩:=aJ hown
  have hmr:=hm.below (Nat.le_refl _) hbw
  by_cases hlt:a<s.size
  ·obtain ⟨kd,ln,hrd⟩:∃kd ln,Hid (Lx.rd ((bs s).drop a)=(kd,ln)):=⟨_,_,rfl⟩
   have hkd:kd≤3:=by have:=Lx.Fc ((bs s).drop a);rw[hrd.out] at this;exact this
   have hln:a+ln≤s.size:=by
    have:=Lx.Nh ((bs s).drop a);rw[hrd.out,List.length_drop,fJ] at this;show a+ln≤s.size;simp at this;omega
   obtain ⟨f,hf⟩:∃f,Hid (f=Lx.Kf kd ln l.length):=⟨_,rfl⟩
   obtain ⟨en,hen⟩:∃en,Hid (en=a+ln):=⟨_,rfl⟩
   have hen1:a≤en:=by have:=hen.out;omega
   have hen2:en≤s.size:=by have:=hen.out;omega
   have hfl:∀w',Calls Tryz.prog 130 #[.int .i64 kd,.int .i64 ((en:Int)-a),.int .i64 l.length] w' fun e w''=>e=.returned (.int .i64 f)/\w''=w':=fun w'=>by rw[hf.out,show (en:Int)-a=ln by have:=hen.out;omega];exact Kk kd ln l.length w' hkd (by omega) hn
   have hsk:=Lx.zJ (s:=bs s) (k:=en) (by rw[fJ];exact hen2)
   rw[fJ] at hsk
   by_cases h0:f=0
   ·subst h0
    have hwb:=hbw.size
    go_wp2_with (first
     | (go_at_call 129;refine (Fa s a kd ln en _ hs hlt hmr hrd hen).mono ?_;rintro e w' ⟨rfl,hw⟩;obtain rfl:=hw.symm)
     | (go_at_call 130;refine (hfl _).mono ?_;rintro e w' ⟨rfl,hw⟩;obtain rfl:=hw.symm)
     | (go_at_call 131;refine (Ks (s.extract a en) _ (Nat.le_trans (G8 s _ _) hs)).mono ?_;rintro e w1 ⟨rfl,hb1⟩;have hwb1:=hb1.size)
     | (at_builtin;refine wpList_append_own _ rfl (.tmp 35) (.tmp 44) 150 rfl w.heap.size 203 i0 (.agg #[.int .i64 0,.string ⟨#[]⟩,.int .i64 0]) 3 32 Tryz.underlying150 hi hz0 hz1 hz2 rfl (by decide) _ _ _ rfl ((Iq hown hb1).alloc _) ⟨w1.heap.size,0,none⟩ 1 1 [.int .i64 kd,.string (s.extract a en),.int .i64 a] rfl rfl (pH _ _ _ _ _) (Ey _ _ _) (by unfold maxLen;omega) (by omega) (by simp;omega) ?_;intro v' w2 hown' hgrow _;have X:Hid _:=Bq hen.out hto hn ha.out hlt hrd.out hf.out.symm hbw hown hb1 hown' hgrow;clear hown' hgrow hown hbw hmr hb1)
     | (go_at_call 128;refine (R7 s en _ hs hen2).mono ?_;rintro e w' ⟨rfl,hw⟩;obtain rfl:=hw.symm))
    obtain ⟨l',hto',hn',hown',hbw',hpos⟩:=X.out
    have hlast:a<en:=by have:=hen.out;omega
    go_roundw
    case rel=>exact ⟨l',en,_,hto',hn',rfl,hsk.2,rfl,hown',hbw'⟩
    case measure=>simp[intOf];omega
   ·have h0':¬(f:Int)=0:=by omega
    have h0'':((f:Int) != 0)=true:=by simpa using h0'
    go_wp2_with (first|(go_at_call 129;refine (Fa s a kd ln en _ hs hlt hmr hrd hen).mono ?_;rintro e w' ⟨rfl,hw⟩;obtain rfl:=hw.symm)|(go_at_call 130;refine (hfl _).mono ?_;rintro e w' ⟨rfl,hw⟩;obtain rfl:=hw.symm))
    go_ret2
    refine ⟨_,_,rfl,hbw.alloc hbw.size _,.inr ⟨f,a,wr.heap.size,?_,by omega,rfl,rfl,hbw.size,heap_alloc_new _ _⟩⟩
    exact Lx.aA4 hto hn ha.out (by rw[fJ];exact hlt) (by rw[hrd.out];exact hf.out) h0
  ·have hwb:=hbw.size
   obtain rfl:a=s.size:=by omega
   go_wp2_with (at_builtin;refine wpList_append_own _ rfl (.tmp 49) (.tmp 52) 150 rfl w.heap.size 203 i0 (.agg #[.int .i64 0,.string ⟨#[]⟩,.int .i64 0]) 3 32 Tryz.underlying150 hi hz0 hz1 hz2 rfl (by decide) _ _ _ rfl (hown.alloc _) ⟨wr.heap.size,0,none⟩ 1 1 [.int .i64 4,.string ⟨#[]⟩,.int .i64 s.size] rfl rfl (pH _ _ _ _ _) (Ey _ _ _) (by unfold maxLen;omega) (by omega) (by simp;omega) ?_;intro v' w2 hown' hgrow _)
   go_ret2
   refine ⟨_,_,rfl,?_,.inl ⟨l,?_,rfl,?_⟩⟩
   ·exact Below.grown (hbw.alloc hwb _) hgrow (by simp;omega) (fun j hj=>by have:=(hown.lt _ hj).1;omega)
   ·exact Lx.aH0 hto hn (by rw[fJ,<-ha.out];omega)
   ·rw[yB];exact hown'
end
section
open Go.RowKit Px
theorem Tryz.info325:(Tryz.prog.info? 325).map (fun i=>(i.zero,i.size,i.bytes))=some (some (.agg #[.string ⟨#[]⟩,.pointer none]),2,24):=by kernel_rfl
theorem jI.oneCell {A:Nat->Prop}{w:World}{e:E}{v:Value}(h:jI A w e v):v.oneCell'=true:=by
 obtain ⟨u,rfl⟩:=h.ptr;rfl
def jT (n:Nat) (v:Value) (b:Nat):Prop:=n≤b/\v.ownBlock≠some b
theorem rZ {B:Nat}{v v':Value}{w w1 w2:World}(hk:aX (jT B v) (jT B v) w w1) (hs:w.heap.size≤w1.heap.size) (hg:w1.grownBy w2 v.ownBlock) (hat:v'.ownBlock=v.ownBlock\/v'.ownBlock=some w1.heap.size):aX (jT B v) (jT B v') w w2:=fun b hb hlt=>by
 obtain ⟨h1,h2⟩:=hk b hb hlt
 refine ⟨⟨hb.1,?_⟩,?_⟩
 ·rcases hat with h|h
  ·rw[h];exact hb.2
  ·rw[h];intro e;injection e with e;omega
 ·rw[hg.block b (by omega) (fun e=>hb.2 e.symm),h2]
theorem Y9 {B n:Nat}{v:Value}{w:World}(hB:B≤n) (hv:∀g,v.ownBlock=some g->g<n):aX (Ge n) (jT B v) w w:=fun b hb _=>
 ⟨⟨Nat.le_trans hB hb,fun e=>by have:=hv b e;simp[Ge] at hb;omega⟩,rfl⟩
theorem mP {B:Nat}{v:Value}{w:World}:aX (jT B v) (Ge B) w w:=fun _ hb _=>⟨hb.1,rfl⟩
theorem sC {C:dT}{B:Nat}{v:Value}{w w':World}(hB:C.rb<B) (hf:Fr w.heap.size [C.rb] w w'):aX (jT B v) (jT B v) w w':=hf.keep (fun b hb=>by
 have:=hb.1;simp;omega)
theorem pV {C:dT}{B e size n:Nat}{v:Value}{xs:List Value}{w w':World}(h:w.ownsRow B e size v n xs) (hB:C.rb<B) (hf:Fr w.heap.size [C.rb] w w'):w'.ownsRow B e size v n xs:=by
 refine ⟨h.1,?_⟩
 rcases h.2 with hn|⟨g,cap,cur,rfl,hb,hgg,rest⟩
 ·exact .inl hn
 ·exact .inr ⟨g,cap,cur,rfl,hb,by rw[hf.block g (aB hgg) (by simp;omega)];exact hgg,rest⟩
structure lW (B:Nat) (w:World) (l:List iQ) (v:Value) (xs:List Value):Prop where
 own:w.ownsRow B 325 2 v l.length xs
 rows:Rows (mG (jT B v) w) l xs
theorem lW.done {B:Nat}{w:World}{l:List iQ}{v:Value}{xs:List Value}(h:lW B w l v xs):cE (Ge B) w l v:=
 ⟨xs,⟨pW h.own,fun g hg=>(h.own.lt g hg).1⟩,h.rows.map (mG.carry mP)⟩
theorem lW.carry {C:dT}{B:Nat}{w w':World}{l:List iQ}{v:Value}{xs:List Value}(h:lW B w l v xs) (hB:C.rb<B) (hf:Fr w.heap.size [C.rb] w w'):lW B w' l v xs:=
 ⟨pV h.own hB hf,h.rows.map (mG.carry (sC hB hf))⟩
theorem PS.low {C:dT}{w w':World}{B i st ins und:Nat}(h:PS C w i st ins und) (hB:C.rb<B) (hf:Fr B [] w w'):PS C w' i st ins und:=by
 have hgr:=h.gr
 have hi:=h.hi
 have hg:w'.heap[C.g]?=w.heap[C.g]?:=hf.block _ (by omega) (by simp)
 refine ⟨by rw[hf.block _ hB (by simp)];exact h.rd,fun k t hk=>?_,h.tab.keep (fun b hb=>hf.block b (by omega) (by simp)),h.lt,h.wf,h.gr,h.hi⟩
 have:=h.tk k t hk
 rw[World.cell?_of_block (w:=w) (a:=⟨C.g,k*3,none⟩) hg,World.cell?_of_block (w:=w) (a:=⟨C.g,k*3+1,none⟩) hg,World.cell?_of_block (w:=w) (a:=⟨C.g,k*3+2,none⟩) hg]
 exact this
def OkS (C:dT) (w:World) (st ins:Nat) (p:List iQ×Nat) (v:Value) (w':World):Prop:=(∃xs,lW w.heap.size w' p.1 v xs)/\p.1.length≤p.2/\PS C w' p.2 st ins 0
theorem I7 (w:World) (a b:Value) (t:TypeId):∀j u,[a,b][j]?=some u->(w.alloc (.cells #[a,b] t)).cell? ((⟨w.heap.size,0,none⟩:Addr).add j)=some u:=by
 intro j u hj
 match j,hj with
 | 0,hj=>simp at hj;subst hj;simp[Addr.add]
 | 1,hj=>simp at hj;subst hj;simp[Addr.add]
 | j+2,hj=>simp at hj
theorem qB {L:List Lx.fK}{i j:Nat}{e:E}(h:Hid (eK L i=.ok (e,j))):i<j:=Cs (Ob 7) _ _ _ _ h.out
theorem Fr.up' {B:Nat}{X:List Nat}{w w1 w2:World}(h:Fr B X w w1) (k:Fr w1.heap.size X w1 w2) (hB:B≤w1.heap.size):Fr B X w w2:=h.trans (k.mono hB (fun _ hx _=>hx))
theorem Ib {C:dT}{B:Nat}{w wr w5 w6:World}{l:List iQ}{v v':Value}{xs:List Value}{s:bB}{e:E}{p:Value}{o:Obj}(hB:C.rb<B) (hBr:B≤wr.heap.size) (h:lW B wr l v xs) (hf:Fr wr.heap.size [C.rb] wr w5) (hw:Fr B [C.rb] w wr) (he:jI (Ge wr.heap.size) w5 e p)
    (hown:w6.ownsRow B 325 2 v' (l.length+1) (xs++[sv s,p])) (hg:(w5.alloc o).grownBy w6 v.ownBlock) (hat:v'.ownBlock=v.ownBlock\/v'.ownBlock=some (w5.alloc o).heap.size) :
    lW B w6 (l++[⟨s,e⟩]) v' (xs++[sv s,p])/\Fr B [C.rb] w w6:=by
 have hs5:=hf.size
 have kA:∀A:Nat->Prop,aX A A w5 (w5.alloc o):=fun A b ha hb=>⟨ha,Below.heap_alloc _ _ _ hb⟩
 have k1:aX (jT B v) (jT B v') wr w6:=rZ ((sC hB hf).trans (kA _) hs5) (by simp;omega) hg hat
 have hvl:∀g,v.ownBlock=some g->g<wr.heap.size:=fun g hg=>(h.own.lt g hg).2
 have k2:aX (Ge wr.heap.size) (jT B v') w5 w6:=((Y9 hBr hvl).trans (rZ (kA _) (by simp) hg hat) (Nat.le_refl _))
 refine ⟨⟨by rw[List.length_append];exact hown,(h.rows.map (mG.carry k1)).append (Rows.one ⟨p,rfl,he.carry k2⟩)⟩,?_⟩
 exact ((hw.up' hf hBr).alloc (by omega) o).grown hg (by simp;omega) (fun k hk=>.inl (h.own.lt k hk).1)
theorem mJ {C:dT}{w:World}{i st ins:Nat}(h:PS C w i st ins 0):Calls Tryz.prog 253 #[.pointer (some ⟨C.rb,0,none⟩)] w (uJ C (OkS C w st ins) w (sets C.L C.L.length [] i)):=by
 obtain ⟨i0,hi,hz0,hz1,hz2⟩:=info_parts Tryz.info325
 have hC:=h.lts.1
 go_enter Tryz.func253,Tryz.ntmps253
 go_wp2_with fail
 go_loopg [3] C.L.length (fun g v wr=>∃(l:List iQ) (j:Nat) (xs:List Value),Hid (sets C.L C.L.length [] i=sets C.L g l j)/\C.L.length≤g+j/\l.length≤j/\lW w.heap.size wr l v xs/\PS C wr j st ins 0/\Fr w.heap.size [C.rb] w wr)
 case atStart=>exact ⟨[],i,[],rfl,by omega,by simp,⟨World.ownsRow_nil _ _ _ _,rfl⟩,h,Fr.refl _ _ _⟩
 case round=>
  obtain ⟨l,j,xs,hr1,hg,hlj,hS,hp1,hf1⟩:=hrel
  obtain ⟨ao,cap,rfl⟩:=aJ hS.own
  have hl6:=hp1.wf.len
  have hj6:=hp1.lt
  have hB1:=hf1.size
  obtain ⟨g',hgg⟩:∃g',gk=g'+1:=⟨gk-1,by have:=hp1.lt;omega⟩
  subst hgg
  have T1:Hid True:=trivial
  go_wp2_with (first
   | (go_at_call 133;refine (eR hp1).mono ?_;rintro e w2 h2;rcases h2.cases with ⟨f,hr2,q,rfl,hq⟩|⟨s2,v2,hr2,rfl,⟨rfl,hp2⟩,hf2⟩;(· exact ⟨rfl,by rw[hr1.out,sets,hr2.out];exact aP.up hf1 ⟨q,rfl,hq⟩⟩);rw[sv])
   | (go_at_call 132;refine (bT hp2 ⟨#[58,61]⟩ rG rfl (by decide)).mono ?_;rintro e w3 h3;rcases h3.cases with ⟨f,hr3,q,rfl,hq⟩|⟨_,v3,hr3,rfl,⟨rfl,hp3⟩,hf3⟩;(· exact ⟨rfl,by rw[hr1.out,sets,hr2.out];simp only;rw[if_neg (aR hr3).1,<-(aR hr3).2];exact aP.up (hf1.up hf2) ⟨q,rfl,hq⟩⟩))
   | (go_at_call 254;refine (kS hp3).mono ?_;rintro e w4 h4;rcases h4.cases with ⟨f,hr4,q,rfl,hq⟩|⟨⟨e4,j4⟩,v4,hr4,rfl,⟨hv4,hp4⟩,hf4⟩;(· exact ⟨rfl,by rw[hr1.out,sets,hr2.out];simp only;rw[if_pos (bF hr3),hr4.out];exact aP.up ((hf1.up hf2).up hf3) ⟨q,rfl,hq⟩⟩);obtain ⟨p4,rfl⟩:=hv4.ptr;have hj4:=qB hr4;have hl4:=hp4.lt;have hF4:Fr wr.heap.size [C.rb] wr w4:=(hf2.up hf3).up hf4;have hB4:=hF4.size;have hv4':=hv4.ge ((hf2.up hf3).size))
   | (at_builtin;refine wpList_append_own_at _ rfl (.tmp 9) (.tmp 14) 252 rfl w.heap.size 325 i0 (.agg #[.string ⟨#[]⟩,.pointer none]) 2 24 Tryz.underlying252 hi hz0 hz1 hz2 rfl (by decide) _ _ _ rfl ((pV hS.own hC hF4).alloc _) ⟨w4.heap.size,0,none⟩ 1 1 [.string ⟨s2.toArray⟩,.pointer p4] rfl rfl (I7 _ _ _ _) (by intro u hu;simp at hu;rcases hu with rfl|rfl<;>rfl) (by unfold maxLen;omega) (by omega) (by simp;omega) ?_;intro v5 w5 hown5 hgrow _ hat;obtain ⟨hS5,hF5⟩:=Ib (s:=s2) (e:=e4) hC hB1 hS hF4 hf1 hv4' hown5 hgrow hat;clear hown5;have hb5:Fr w.heap.size [] w4 w5:=((Fr.refl _ _ _).alloc (by omega) _).grown hgrow (by simp;omega) (fun k hk=>.inl (hS.own.lt k hk).1);have hp5:=hp4.low hC hb5))
  have hsh:w5.ownsRow w.heap.size 325 2 v5 (l.length+1) (xs++[sv s2,.pointer p4]):=by have:=hS5.own;rw[List.length_append] at this;exact this
  obtain ⟨ao5,cap5,rfl⟩:=aJ hsh
  by_cases hcm:tx C.L j4=Pe
  ·go_wp2_with (go_at_call 140;refine (dM hp5 ⟨#[44]⟩ hcm (by decide)).mono ?_;rintro e w6 ⟨rfl,hp6,hf6⟩)
   go_roundg g'
   case measure=>omega
   case rel=>exact ⟨l++[⟨s2,e4⟩],j4+1,_,by rw[Hid,hr1.out,sets,hr2.out];simp only;rw[if_pos (bF hr3),hr4.out];simp only;rw[if_pos hcm],by omega,by simp;omega,hS5.carry hC hf6,hp6,hF5.up' hf6 (by have:=hF5.size;omega)⟩
  ·go_wp2_with (go_at_call 140;refine (cG hp5 ⟨#[44]⟩ hcm).mono ?_;rintro e w6 ⟨rfl,hp6,hf6⟩)
   go_ret
   rw[hr1.out,sets,hr2.out]
   simp only
   rw[if_pos (bF hr3),hr4.out]
   simp only
   rw[if_neg hcm]
   exact ⟨_,rfl,⟨⟨_,hS5.carry hC hf6.wide⟩,by simp;omega,hp6⟩,hF5.up' hf6.wide (by have:=hF5.size;omega)⟩
theorem Hl {C:dT}{w:World}{i st ins und:Nat}(h:PS C w i st ins und):Calls Tryz.prog 269 #[.pointer (some ⟨C.rb,0,none⟩)] w (uJ C (fun (n:Nat) v w'=>v=.int .i64 n/\PS C w' (i+1) st ins und) w (times C.L i)):=by
 rcases hn:bM C.L i with f|n
 ·have HN:Hid _:=hn
  clear hn
  go_enter Tryz.func269,Tryz.ntmps269
  go_wp2_with (go_at_call 190;refine (dB _ i st ins und h).mono ?_;rintro e w1 h1;rw[HN.out] at h1;obtain ⟨q,rfl,hq⟩:=h1;exact ⟨rfl,by rw[times,HN.out];exact ⟨q,rfl,hq⟩⟩)
 ·have HN:Hid _:=hn
  clear hn
  by_cases hb:n<1\/1000<n
  ·have HT:Hid (times C.L i=.error (4,pl C.L i)):=by rw[Hid,times,HN.out];exact if_pos hb
   rcases hb with hb|hb
   ·have hb1:(n:Int)<1:=by omega
    go_enter Tryz.func269,Tryz.ntmps269
    go_wp2_with (first
     | (go_at_call 190;refine (dB _ i st ins und h).mono ?_;rintro e w1 h1;rw[HN.out] at h1;obtain ⟨v1,rfl,⟨rfl,hn18,hp1⟩,hf1⟩:=h1;obtain ⟨-,c1,-⟩:=hp1.cells;have z1:=hp1.frozen 1;obtain ⟨hp2,hf2⟩:=hp1.back;have hl6:=hp1.wf.len;have hil:=hp1.lt)
     | (go_at_call 142;refine (gR hp2 4).mono ?_;rintro e w3 ⟨q,rfl,ht⟩))
    rw[HT.out]
    exact ⟨rfl,aP.up (hf1.up hf2) ⟨q,rfl,ht⟩⟩
   ·have hb1:¬(n:Int)<1:=by omega
    have hb2:(1000:Int)<(n:Int):=by omega
    go_enter Tryz.func269,Tryz.ntmps269
    go_wp2_with (first
     | (go_at_call 190;refine (dB _ i st ins und h).mono ?_;rintro e w1 h1;rw[HN.out] at h1;obtain ⟨v1,rfl,⟨rfl,hn18,hp1⟩,hf1⟩:=h1;obtain ⟨-,c1,-⟩:=hp1.cells;have z1:=hp1.frozen 1;obtain ⟨hp2,hf2⟩:=hp1.back;have hl6:=hp1.wf.len;have hil:=hp1.lt)
     | (go_at_call 142;refine (gR hp2 4).mono ?_;rintro e w3 ⟨q,rfl,ht⟩))
    rw[HT.out]
    exact ⟨rfl,aP.up (hf1.up hf2) ⟨q,rfl,ht⟩⟩
  ·have HT:Hid (times C.L i=.ok n):=by rw[Hid,times,HN.out];exact if_neg hb
   have hb1:¬(n:Int)<1:=by omega
   have hb2:¬(1000:Int)<(n:Int):=by omega
   clear hb
   go_enter Tryz.func269,Tryz.ntmps269
   go_wp2_with (go_at_call 190;refine (dB _ i st ins und h).mono ?_;rintro e w1 h1;rw[HN.out] at h1;obtain ⟨v1,rfl,⟨rfl,hn18,hp1⟩,hf1⟩:=h1)
   go_ret
   rw[HT.out]
   exact ⟨_,rfl,⟨rfl,hp1⟩,hf1⟩
end
end Go.Proofs.YtcdbhoknhnimcaaGreatDoor
