/- What net's Tick does: one tick of code. -/
import Derived.Test.YtanlfmhlohcmgaaNt3
import Derived.Deep.RegionHeld3
namespace Go.Proofs.Ytanlfmhlohcmgaa
open Go.RowKit
namespace Nx

/-- a machine that lies in block bm, its places in block g, its code in blocks below B -/
structure IsM (B : Nat) (w : World) (bm g : Nat) (n : Nt) (V : List Int) : Prop where
  row : ∃ vF vI vO vK vN vC vp, w.heap[bm]? = some (.cells (mCells n.places vF vI vO vK vN vC vp) 50 (0, 0)) ∧ Ints (· < B) w vI n.ins ∧ Ints (· < B) w vO n.outs ∧ Ints (· < B) w vK n.keeps ∧ Ints (· < B) w vN n.nums ∧ Steps (· < B) w vC n.code ∧ Own w vp V g
  hb : B ≤ bm
  hg : B ≤ g
  gm : g ≠ bm
  gl : g < w.heap.size

structure Few (n : Nt) (V : List Int) : Prop where
  v : V.length ≤ 100000
  ins : n.ins.length ≤ 100000
  outs : n.outs.length ≤ 100000
  keeps : n.keeps.length ≤ 100000
  code : n.code.length ≤ 100000

theorem frKeep {B B1 : Nat} {X : List Nat} {w w' : World} (h : Fr B1 X w w') (hB : B ≤ B1) (hX : ∀ x ∈ X, B ≤ x) : Keep (· < B) (· < B) w w' :=
  fun b hb _ => ⟨hb, h.block b (Nat.lt_of_lt_of_le hb hB) (fun hm => by have := hX b hm; omega)⟩

theorem ix24 (ad : Option Addr) (b off n cap k : Nat) (hk : k < n) (ha : 0 < n → ad = some ⟨b, off, none⟩) (w : World) : (Instr.indexAt 24 (.slice ad n cap) (.int .i64 (k : Int))).run Try.prog w = .ok (.pointer (some ⟨b, off + k * 5, none⟩)) w := by
  obtain rfl := ha (by omega)
  rw [run_indexAt_slice _ _ _ _ _ _ _ (by kernel_rfl), if_pos ⟨by omega, by omega⟩]
  have e : (sizeOf (Try.prog.elem 24)).run Try.prog w = .ok 5 w := by kernel_rfl
  rw [e]
  simp [Result.andThen, Addr.add]

set_option maxHeartbeats 4000000 in
theorem tick_any (B : Nat) (n : Nt) (V ins : List Int) (bm g : Nat) (vi : Value) (w : World) (hM : IsM B w bm g n V) (hi : Ints (· < B) w vi ins) (hf : Few n V) :
    Calls Try.prog 14 #[.pointer (some ⟨bm, 0, none⟩), vi] w fun e w' => ∃ v g', e = .returned v ∧ IsM B w' bm g' n (after n V ins) ∧ Ints (fun b => w.heap.size ≤ b ∧ b < g') w' v (tells n V ins) ∧ Fr w.heap.size [bm, g] w w' ∧ w.heap.size ≤ g' ∧ g' < w'.heap.size := by
  obtain ⟨⟨vF, vI, vO, vK, vN, vC, vp, hm, hI, hO, hK, hN, hC, hp⟩, hbm, hgB, hgm, hgl⟩ := hM
  have hbl := lt_of_block hm
  obtain ⟨adI, bI, offI, capI, rfl, hI1, hI2⟩ := id hI
  obtain ⟨adO, bO, offO, capO, rfl, hO1, hO2⟩ := id hO
  obtain ⟨adC, bC, offC, capC, rfl, hC1, hC2⟩ := id hC
  obtain ⟨adp, capp, rfl, hp1⟩ := id hp
  obtain ⟨adi, bi, offi, capi, rfl, hi1, hi2⟩ := id hi
  obtain ⟨adN, bN, offN, capN, rfl, hN1, hN2⟩ := id hN
  have h1 := hf.ins; have h2 := hf.outs; have h3 := hf.code; have h4 := hf.v; have hkp := hf.keeps
  have HM : Hid (w.heap[bm]? = some (.cells (mCells n.places vF (.slice adI n.ins.length capI) (.slice adO n.outs.length capO) vK (.slice adN n.nums.length capN) (.slice adC n.code.length capC) (.slice adp V.length capp)) 50 (0, 0))) := hm
  have HI : Hid (Ints (· < B) w (.slice adI n.ins.length capI) n.ins) := hI
  have HO : Hid (Ints (· < B) w (.slice adO n.outs.length capO) n.outs) := hO
  have HK : Hid (Ints (· < B) w vK n.keeps) := hK
  have HN : Hid (Ints (· < B) w (.slice adN n.nums.length capN) n.nums) := hN
  have HC : Hid (Steps (· < B) w (.slice adC n.code.length capC) n.code) := hC
  have Hi : Hid (Ints (· < B) w (.slice adi ins.length capi) ins) := hi
  have HI1 : Hid ((0 < n.ins.length → adI = some ⟨bI, offI, none⟩ ∧ bI < B) ∧ ∀ k, k < n.ins.length → w.cell? ⟨bI, offI + k, none⟩ = some (.int .i64 (n.ins.getD k 0))) := ⟨hI1, hI2⟩
  have HO1 : Hid ((0 < n.outs.length → adO = some ⟨bO, offO, none⟩ ∧ bO < B) ∧ ∀ k, k < n.outs.length → w.cell? ⟨bO, offO + k, none⟩ = some (.int .i64 (n.outs.getD k 0))) := ⟨hO1, hO2⟩
  have HC1 : Hid ((0 < n.code.length → adC = some ⟨bC, offC, none⟩ ∧ bC < B) ∧ _) := ⟨hC1, hC2⟩
  have HP : Hid (Own w (.slice adp V.length capp) V g) := hp
  have HG : Hid (g < w.heap.size) := hgl
  clear hm hI hO hK hN hC hi hI1 hI2 hO1 hO2 hC1 hC2 hp hp1 hi1 hi2 hN1 hN2 hgl hf
  -- the world at the start of the loops
  obtain ⟨W, hW⟩ : ∃ W, W = w.alloc (.cells #[.pointer (some ⟨bm, 0, none⟩)] 41) := ⟨_, rfl⟩
  have HS : Hid (W.heap.size = w.heap.size + 1) := by unfold Hid; rw [hW]; simp
  have HFW : Hid (Fr w.heap.size [] w W) := by unfold Hid; rw [hW]; exact (Fr.refl _ _ _).alloc (Nat.le_refl _) _
  have HQ : Hid (W.cell? ⟨w.heap.size, 0, none⟩ = some (.pointer (some ⟨bm, 0, none⟩))) := by unfold Hid; rw [hW]; simp
  -- what stays, in whatever world behind it
  have HST : Hid (∀ wr, Fr W.heap.size [g] W wr → wr.heap[bm]? = w.heap[bm]? ∧ wr.cell? ⟨w.heap.size, 0, none⟩ = some (.pointer (some ⟨bm, 0, none⟩)) ∧ Keep (· < B) (· < B) w wr ∧ w.heap.size < wr.heap.size) := by
    intro wr h
    have s1 := HS.out
    refine ⟨?_, ?_, ?_, ?_⟩
    · rw [h.block bm (by omega) (by simp; omega), HFW.out.block bm hbl (by simp)]
    · rw [cell_of_block (h.block w.heap.size (by omega) (by have := HG.out; simp; omega))]; exact HQ.out
    · intro b hb hl
      exact ⟨hb, by rw [h.block b (by omega) (by simp; omega), HFW.out.block b hl (by simp)]⟩
    · have := h.size; omega
  have c2 : (w.alloc (.cells #[.pointer (some ⟨bm, 0, none⟩)] 41)).cell? ⟨bm, 2, none⟩ = some (.slice adI n.ins.length capI) := by rw [← hW, cell_of_block (HFW.out.block bm hbl (by simp)), cell_row HM.out]; rfl
  have HW : Hid (W = w.alloc (.cells #[.pointer (some ⟨bm, 0, none⟩)] 41)) := hW
  clear hW
  go_enter Try.func14, Try.ntmps14
  go_wp2
  rw [← HW.out]
  clear c2
  go_loopw [22] (fun i wr => ∃ k : Nat, k ≤ n.ins.length ∧ i = .int .i64 k ∧ Own wr (.slice adp V.length capp) (insK n.ins ins V k) g ∧ Fr W.heap.size [g] W wr) (fun i _ => n.ins.length - (intOf i).toNat)
  case atStart => exact ⟨0, Nat.zero_le _, rfl, HP.out.keep (HFW.out.block g HG.out (by simp)), Fr.refl _ _ _⟩
  case round =>
    obtain ⟨k, hk, rfl, hown, hF⟩ := hrel
    obtain ⟨sb, c0, sk, sl⟩ := HST.out wr hF
    have HF : Hid (Fr W.heap.size [g] W wr) := hF
    have SB : Hid (wr.heap[bm]? = w.heap[bm]?) := sb
    have SK : Hid (Keep (· < B) (· < B) w wr) := sk
    clear hF sb sk
    by_cases hlt : k < n.ins.length
    · have hix := ix23 adI bI offI n.ins.length capI k hlt (fun h => (HI1.out.1 h).1)
      obtain ⟨x, hx⟩ : ∃ x, x = n.ins.getD k 0 := ⟨_, rfl⟩
      have cx : wr.cell? ⟨bI, offI + k, none⟩ = some (.int .i64 x) := by
        have := HI1.out.2 k hlt
        rw [cell_of_block (SK.out bI (HI1.out.1 (by omega)).2 (lt_of_cell this)).2, hx]; exact this
      have c7 : wr.cell? ⟨bm, 7, none⟩ = some (.slice adp V.length capp) := by rw [cell_of_block SB.out, cell_row HM.out]; rfl
      have hat := at_any (A := (· < B)) (.slice adi ins.length capi) ins k wr.drew ((Hi.out.carry SK.out).carry (fun b hb _ => ⟨hb, rfl⟩))
      rw [get_nat] at hat
      have hput := put_any (.slice adp V.length capp) (insK n.ins ins V k) g x (ins.getD k 0) wr.drew (hown.keep rfl)
      have HX : Hid (x = n.ins.getD k 0) := hx
      clear hx hown
      go_wp2_with fail
      go_region_with (first | (go_at_call 18; refine hat.mono ?_; rintro e w' ⟨rfl, rfl⟩) | (go_at_call 19; refine hput.mono ?_; rintro e w2 ⟨rfl, hown2, hF2⟩))
      all_goals
        go_wp2_with fail
        go_roundw
        case rel => exact ⟨k + 1, by omega, by go_num, by rw [insK, ← HX.out]; exact hown2, HF.out.trans ((Fr.refl _ _ wr).drew.trans (hF2.mono (Nat.le_trans HF.out.size (Nat.le_refl _)) (fun y hy _ => hy)))⟩
        case measure => simp [intOf]; omega
    · obtain rfl : k = n.ins.length := by omega
      have c6 : wr.cell? ⟨bm, 6, none⟩ = some (.slice adC n.code.length capC) := by rw [cell_of_block SB.out, cell_row HM.out]; rfl
      have hvl := insK_len n.ins ins V n.ins.length
      obtain ⟨V1, hV1⟩ : ∃ V1, V1 = insK n.ins ins V n.ins.length := ⟨_, rfl⟩
      rw [← hV1] at hvl hown
      have HV1 : Hid (V1 = insK n.ins ins V n.ins.length) := hV1
      have HL1 : Hid (V1.length = V.length) := hvl
      have HO2 : Hid (Own wr (.slice adp V.length capp) V1 g) := hown
      clear hV1 hvl hown hlt hk
      go_wp2
      go_loopw [43] (fun i wr => ∃ k : Nat, k ≤ n.code.length ∧ i = .int .i64 k ∧ Own wr (.slice adp V.length capp) (codeK n.nums n.code V1 k) g ∧ Fr W.heap.size [g] W wr) (fun i _ => n.code.length - (intOf i).toNat)
      case atStart => exact ⟨0, Nat.zero_le _, rfl, HO2.out, HF.out⟩
      case round =>
        clear c6 c0 sl SB SK HO2 HF
        obtain ⟨k, hk, rfl, hown, hF⟩ := hrel
        obtain ⟨sb, c0, sk, sl⟩ := HST.out wr hF
        have HF : Hid (Fr W.heap.size [g] W wr) := hF
        have SB : Hid (wr.heap[bm]? = w.heap[bm]?) := sb
        have SK : Hid (Keep (· < B) (· < B) w wr) := sk
        clear hF sb sk
        by_cases hlt : k < n.code.length
        · have hix := ix24 adC bC offC n.code.length capC k hlt (fun h => (HC1.out.1 h).1)
          obtain ⟨s, hs⟩ : ∃ s, s = n.code.getD k sp0 := ⟨_, rfl⟩
          have hb' : wr.heap[bC]? = w.heap[bC]? := (SK.out bC (HC1.out.1 (by omega)).2 (lt_of_cell (HC1.out.2 k hlt).1)).2
          obtain ⟨x0, x1, x2, x3, x4⟩ := HC1.out.2 k hlt
          rw [← cell_of_block hb', ← hs] at x0 x1 x2 x3 x4
          have HX : Hid (s = n.code.getD k sp0) := hs
          clear hs hb'
          have hmv : MV (· < B) wr w.heap.size bm g (.slice adp V.length capp) (.slice adN n.nums.length capN) (codeK n.nums n.code V1 k) n.nums :=
            ⟨c0, by rw [cell_of_block SB.out, cell_row HM.out]; rfl, hown, fun _ => Nat.lt_trans HG.out sl, HN.out.carry SK.out⟩
          have hc5 : wr.cell? ⟨bm, 5, none⟩ = some (.slice adN n.nums.length capN) := by rw [cell_of_block SB.out, cell_row HM.out]; rfl
          go_wp2_with fail
          obtain ⟨W2, hW2⟩ : ∃ W2, W2 = wr.alloc (.cells #[.int .i64 s.code, .int .i64 s.dst, .int .i64 s.a, .int .i64 s.b, .int .i64 s.c] 37) := ⟨_, rfl⟩
          have hb2 : Below wr.heap.size wr W2 := by rw [hW2]; exact grown_one wr _
          have e0 : W2.cell? ⟨wr.heap.size, 0, none⟩ = some (.int .i64 s.code) := by rw [hW2]; simp
          have e1 : W2.cell? ⟨wr.heap.size, 1, none⟩ = some (.int .i64 s.dst) := by rw [hW2]; simp
          have e2 : W2.cell? ⟨wr.heap.size, 2, none⟩ = some (.int .i64 s.a) := by rw [hW2]; simp
          have e3 : W2.cell? ⟨wr.heap.size, 3, none⟩ = some (.int .i64 s.b) := by rw [hW2]; simp
          have e4 : W2.cell? ⟨wr.heap.size, 4, none⟩ = some (.int .i64 s.c) := by rw [hW2]; simp
          rw [← hW2]
          have hsz2 : wr.heap.size < W2.heap.size := by rw [hW2]; simp
          clear hW2 x0 x1 x2 x3 x4 hix c0
          have hmv2 := hmv.below hb2
          have c0 := hmv2.q
          have c7 := hmv2.p
          have c5 := cell_below hb2 hc5
          have hdr : Below W2.heap.size W2 W2.drew := ⟨rfl, rfl, rfl, Nat.le_refl _, fun _ _ => rfl⟩
          have hmade := made_any W2.drew w.heap.size bm g _ _ _ _ s (hmv2.below hdr)
          have hnext : Hid (∀ w3, Below W2.drew.heap.size W2.drew w3 → (w3.cell? ⟨w.heap.size, 0, none⟩ = some (.pointer (some ⟨bm, 0, none⟩)) ∧ w3.cell? ⟨bm, 7, none⟩ = some (.slice adp V.length capp) ∧ w3.cell? ⟨bm, 5, none⟩ = some (.slice adN n.nums.length capN) ∧ w3.cell? ⟨wr.heap.size, 0, none⟩ = some (.int .i64 s.code) ∧ w3.cell? ⟨wr.heap.size, 1, none⟩ = some (.int .i64 s.dst) ∧ w3.cell? ⟨wr.heap.size, 2, none⟩ = some (.int .i64 s.a) ∧ w3.cell? ⟨wr.heap.size, 3, none⟩ = some (.int .i64 s.b) ∧ w3.cell? ⟨wr.heap.size, 4, none⟩ = some (.int .i64 s.c)) ∧
              Calls Try.prog 19 #[.slice adp V.length capp, .int .i64 s.dst, .int .i64 (made n.nums (codeK n.nums n.code V1 k) s)] w3 fun e w' => e = .returned (.tuple #[]) ∧ Own w' (.slice adp V.length capp) (put (codeK n.nums n.code V1 k) s.dst (made n.nums (codeK n.nums n.code V1 k) s)) g ∧ Fr W.heap.size [g] W w' ∧ (w'.cell? ⟨w.heap.size, 0, none⟩ = some (.pointer (some ⟨bm, 0, none⟩)) ∧ w'.cell? ⟨bm, 7, none⟩ = some (.slice adp V.length capp) ∧ w'.cell? ⟨bm, 5, none⟩ = some (.slice adN n.nums.length capN) ∧ w'.cell? ⟨wr.heap.size, 0, none⟩ = some (.int .i64 s.code) ∧ w'.cell? ⟨wr.heap.size, 1, none⟩ = some (.int .i64 s.dst) ∧ w'.cell? ⟨wr.heap.size, 2, none⟩ = some (.int .i64 s.a) ∧ w'.cell? ⟨wr.heap.size, 3, none⟩ = some (.int .i64 s.b) ∧ w'.cell? ⟨wr.heap.size, 4, none⟩ = some (.int .i64 s.c))) := by
            intro w3 hb3
            have hmv3 := (hmv2.below hdr).below hb3
            have hb3' := ball hdr hb3
            have hs3 : (w3.cell? ⟨w.heap.size, 0, none⟩ = some (.pointer (some ⟨bm, 0, none⟩)) ∧ w3.cell? ⟨bm, 7, none⟩ = some (.slice adp V.length capp) ∧ w3.cell? ⟨bm, 5, none⟩ = some (.slice adN n.nums.length capN) ∧ w3.cell? ⟨wr.heap.size, 0, none⟩ = some (.int .i64 s.code) ∧ w3.cell? ⟨wr.heap.size, 1, none⟩ = some (.int .i64 s.dst) ∧ w3.cell? ⟨wr.heap.size, 2, none⟩ = some (.int .i64 s.a) ∧ w3.cell? ⟨wr.heap.size, 3, none⟩ = some (.int .i64 s.b) ∧ w3.cell? ⟨wr.heap.size, 4, none⟩ = some (.int .i64 s.c)) := ⟨hmv3.q, hmv3.p, cell_below hb3' c5, cell_below hb3' e0, cell_below hb3' e1, cell_below hb3' e2, cell_below hb3' e3, cell_below hb3' e4⟩
            refine ⟨hs3, (put_any _ _ g s.dst (made n.nums (codeK n.nums n.code V1 k) s) w3 hmv3.own).mono fun e w' ⟨he, ho, hf⟩ => ⟨he, ho, ?_, ?_⟩⟩
            · exact (HF.out.trans (Fr.of_below (((ball hb2 hb3').mono HF.out.size)) _)).trans (hf.mono (Nat.le_trans HF.out.size (ball hb2 hb3').size) (fun y hy _ => hy))
            · have far : ∀ b o, b ≠ g → (∃ v, w3.cell? ⟨b, o, none⟩ = some v) → w'.cell? ⟨b, o, none⟩ = w3.cell? ⟨b, o, none⟩ := fun b o hne ⟨v, hv⟩ => cell_of_block (hf.block b (lt_of_cell hv) (by simpa using hne)) o
              obtain ⟨f0, f7, f5, s0, s1, s2, s3, s4⟩ := hs3
              have hG := HG.out
              exact ⟨(far _ _ (by omega) ⟨_, f0⟩).trans f0, (far _ _ (Ne.symm hgm) ⟨_, f7⟩).trans f7, (far _ _ (Ne.symm hgm) ⟨_, f5⟩).trans f5, (far _ _ (by omega) ⟨_, s0⟩).trans s0, (far _ _ (by omega) ⟨_, s1⟩).trans s1, (far _ _ (by omega) ⟨_, s2⟩).trans s2, (far _ _ (by omega) ⟨_, s3⟩).trans s3, (far _ _ (by omega) ⟨_, s4⟩).trans s4⟩
          clear hmv hmv2 hc5 hdr hb2 hown
          go_region_held3 (fun w' => w'.cell? ⟨w.heap.size, 0, none⟩ = some (.pointer (some ⟨bm, 0, none⟩)) ∧ w'.cell? ⟨bm, 7, none⟩ = some (.slice adp V.length capp) ∧ w'.cell? ⟨bm, 5, none⟩ = some (.slice adN n.nums.length capN) ∧ w'.cell? ⟨wr.heap.size, 0, none⟩ = some (.int .i64 s.code) ∧ w'.cell? ⟨wr.heap.size, 1, none⟩ = some (.int .i64 s.dst) ∧ w'.cell? ⟨wr.heap.size, 2, none⟩ = some (.int .i64 s.a) ∧ w'.cell? ⟨wr.heap.size, 3, none⟩ = some (.int .i64 s.b) ∧ w'.cell? ⟨wr.heap.size, 4, none⟩ = some (.int .i64 s.c)) (first | exact hS4 | exact hS3 | go_keep)
            ((first | (go_at_call 20; refine hmade.mono ?_; rintro e w3 ⟨rfl, hb3⟩; obtain ⟨hS3, hput⟩ := hnext.out w3 hb3) | (go_at_call 19; refine hput.mono ?_; rintro e w4 ⟨rfl, hown4, hF4, hS4⟩)))
          all_goals
            go_wp2_with fail
            go_roundw
            case rel => exact ⟨k + 1, by omega, by go_num, by rw [codeK, ← HX.out]; exact hown4, hF4⟩
            case measure => simp [intOf]; omega
        · obtain rfl : k = n.code.length := by omega
          have c3 : wr.cell? ⟨bm, 3, none⟩ = some (.slice adO n.outs.length capO) := by rw [cell_of_block SB.out, cell_row HM.out]; rfl
          have hvl := codeK_len n.nums n.code V1 n.code.length
          obtain ⟨V2, hV2⟩ : ∃ V2, V2 = codeK n.nums n.code V1 n.code.length := ⟨_, rfl⟩
          rw [← hV2] at hvl hown
          have HV2 : Hid (V2 = ran n V ins) := by unfold Hid ran; rw [hV2, HV1.out]
          have HL2 : Hid (V2.length = V.length) := hvl.trans HL1.out
          have HO2 : Hid (Own wr (.slice adp V.length capp) V2 g) := hown
          clear hV2 hvl hown hlt hk HV1 HL1
          obtain ⟨i0, hi, hz0, hz1, hz2⟩ := info_parts Try.infoI64
          go_wp2
          go_loopw [10, 69] (fun v i wr => ∃ k : Nat, k ≤ n.outs.length ∧ i = .int .i64 k ∧ wr.ownsRow W.heap.size 2 1 v k (((n.outs.take k).map (get V2)).map (Value.int .i64)) ∧ Own wr (.slice adp V.length capp) V2 g ∧ Fr W.heap.size [g] W wr) (fun _ i _ => n.outs.length - (intOf i).toNat)
          case atStart => exact ⟨0, Nat.zero_le _, rfl, World.ownsRow_nil _ _ _ _, HO2.out, HF.out⟩
          case round =>
            clear c3 c0 sl SB SK HO2 HF
            obtain ⟨k, hk, rfl, hrow, hown, hF⟩ := hrel
            obtain ⟨sb, c0, sk, sl⟩ := HST.out wr hF
            have HF : Hid (Fr W.heap.size [g] W wr) := hF
            have SB : Hid (wr.heap[bm]? = w.heap[bm]?) := sb
            have SK : Hid (Keep (· < B) (· < B) w wr) := sk
            clear hF sb sk
            have c7 : wr.cell? ⟨bm, 7, none⟩ = some (.slice adp V.length capp) := by rw [cell_of_block SB.out, cell_row HM.out]; rfl
            by_cases hlt : k < n.outs.length
            · have hix := ix23 adO bO offO n.outs.length capO k hlt (fun h => (HO1.out.1 h).1)
              obtain ⟨x, hx⟩ : ∃ x, x = n.outs.getD k 0 := ⟨_, rfl⟩
              have cx : wr.cell? ⟨bO, offO + k, none⟩ = some (.int .i64 x) := by
                have := HO1.out.2 k hlt
                rw [cell_of_block (SK.out bO (HO1.out.1 (by omega)).2 (lt_of_cell this)).2, hx]; exact this
              have hask := ask_any w.heap.size bm (.slice adp V.length capp) V2 g x wr c0 c7 hown
              have HX : Hid ((n.outs.take (k + 1)).map (get V2) = (n.outs.take k).map (get V2) ++ [get V2 x]) := by unfold Hid; rw [hx, HV2.out]; exact tells_at n V ins k hlt
              have HWS : Hid (W.heap.size ≤ wr.heap.size) := HF.out.size
              have HO3 : Hid (Own wr (.slice adp V.length capp) V2 g) := hown
              clear hx hown c7
              go_wp2_with (first | (go_at_call 17; refine hask.mono ?_; rintro e w' ⟨rfl, hw'⟩; obtain rfl := hw'.symm) | (at_builtin; refine wpList_append_own _ rfl (.tmp 73) (.tmp 77) 22 rfl W.heap.size 2 i0 (.int .i64 0) 1 8 Try.underlying22 hi hz0 hz1 hz2 rfl (by decide) _ _ _ rfl (hrow.alloc _) ⟨wr.heap.size, 0, none⟩ 1 1 [.int .i64 (get V2 x)] rfl rfl (cell_one_new _ _ _) (ints_oneCell .i64 [get V2 x]) (by unfold maxLen; omega) (by omega) (by have := HWS.out; simp; omega) ?_; intro v' w1 hown1 hgrow1 _))
              go_roundw
              case rel =>
                have hs := HS.out
                have hG := HG.out
                have hws := HWS.out
                refine ⟨k + 1, by omega, by go_num, by rw [HX.out, List.map_append]; exact hown1, HO3.out.keep ?_, (HF.out.alloc hws _).trans ⟨hgrow1.os, hgrow1.tape, hgrow1.output, hgrow1.size, fun b hb _ => hgrow1.block b (by simp; omega) (fun e => by have := (hrow.lt b e.symm).1; omega)⟩⟩
                rw [hgrow1.block g (by simp; omega) (fun e => by have := (hrow.lt g e.symm).1; omega)]
                exact Below.heap_alloc _ _ _ (by omega)
              case measure => simp [intOf]; omega
            · obtain rfl : k = n.outs.length := by omega
              rw [List.take_length] at hrow
              have hfg := forget_any (A := (· < B)) n.places vF _ _ vK _ _ _ n.keeps V2 bm g wr (SB.out.trans HM.out) (HK.out.carry SK.out) hown (fun _ => Nat.lt_trans HG.out sl) (by have := HL2.out; omega) hkp
              have HROW : Hid (∃ gr, Own wr u10 (tells n V ins) gr ∧ W.heap.size ≤ gr ∧ (0 < n.outs.length → gr < wr.heap.size) ∧ (tells n V ins).length = n.outs.length) := by
                have e : tells n V ins = n.outs.map (get V2) := by unfold tells; rw [HV2.out]
                rw [e]; exact own_of_row hrow
              clear hown hrow c7
              go_wp2_with (go_at_call 21; refine hfg.mono ?_; rintro e w4 ⟨rfl, vp', hm4, hown4, hF4, hlt4⟩)
              go_ret
              obtain ⟨gr, hr, hgr, hgl, -⟩ := HROW.out
              have hs := HS.out
              have hG := HG.out
              have hkeep : Keep (· < B) (· < B) w w4 := fun b hb hl => ⟨hb, by rw [hF4.block b (by omega) (by simp; omega)]; exact (SK.out b hb hl).2⟩
              refine ⟨_, wr.heap.size, rfl, ⟨⟨vF, _, _, vK, _, _, vp', hm4, HI.out.carry hkeep, HO.out.carry hkeep, HK.out.carry hkeep, HN.out.carry hkeep, HC.out.carry hkeep, ?_⟩, hbm, by omega, by omega, hlt4⟩, ?_, ?_, by omega, hlt4⟩
              · unfold after; rw [← HV2.out]; exact hown4
              · have h0 := tells_len n V ins
                by_cases hp : 0 < n.outs.length
                · exact (hr.keep (hF4.block gr (hgl hp) (by simp; omega))).ints (fun _ => ⟨by omega, hgl hp⟩)
                · obtain ⟨ad, cap, e, _⟩ := hr
                  exact ⟨ad, 0, 0, cap, e, fun h => by omega, fun k hk => by omega⟩
              · have h1 : Fr w.heap.size [bm, g] w wr := ((HFW.out.mono (Nat.le_refl _) (fun y hy _ => by simp at hy)).trans (HF.out.mono (by omega) (fun y hy _ => by simp at hy; simp [hy])))
                exact h1.trans (hF4.mono (by omega) (fun y hy _ => by simp at hy; simp [hy]))
end Nx
end Go.Proofs.Ytanlfmhlohcmgaa
