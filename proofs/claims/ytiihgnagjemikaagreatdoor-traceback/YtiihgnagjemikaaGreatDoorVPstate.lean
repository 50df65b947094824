/- part: the others. -/
import Derived.Test.YtiihgnagjemikaaGreatDoorVPpart
namespace Go.Proofs.YtiihgnagjemikaaGreatDoor
open Go.RowKit Px

set_option maxRecDepth 100000 in
set_option maxHeartbeats 8000000 in
theorem part_enter {C : Ctx} {k B sb ins i c : Nat} {w : World} {s : StF (St k)} {reg : Nat → Nat → Except F (List (St k) × Nat × Nat)} (h : PS C w i c ins 0) (hE : Env C B sb w) (hS : SUx k B sb w s) (hb : Bd i s) (hw : tx C.L i = kEntry) : Calls Tryz.prog 120 #[.pointer (some ⟨C.rb, 0, none⟩), .pointer (some ⟨sb, 0, none⟩)] w (OutX B [C.rb, sb] (PartOk C k B sb ins i c s) w (Px.part C.L (St k) reg s c i)) := by
  obtain ⟨i0, hi, hz0, hz1, hz2⟩ := info_parts Tryz.info203
  obtain ⟨e, d, l, p, y, r, xe, xd, xl, xy, xr, hS⟩ := hS
  have hl6 := h.wf.len
  have hil := h.lt
  have hbe := hb.e
  have hbd := hb.d
  have hbl := hb.l
  have hby := hb.y
  have hbr := hb.r
  obtain ⟨hErb, hEsb, hEne, hEB⟩ := hE
  have hEne' : sb ∉ [C.rb] := by simp; omega
  have hX : ∀ x ∈ [C.rb], x < B := by simp; omega
  obtain ⟨tb, htb⟩ : ∃ tb : ByteArray, Hid (bs tb = tx C.L i) := ⟨⟨(tx C.L i).toArray⟩, rfl⟩
  have hoy : w.ownsRow B 203 2 e s.enter.length xe := hS.good.own (sSet s.enter e xe) (by simp [stSlots])
  obtain ⟨ao, cap, rfl⟩ := owns_shape hoy
  have HL : Hid (leadOf (bs tb) = none) := by rw [Hid, htb.out, hw]; decide
  have HY : Hid _ := hw
  have HN0 : Hid (tx C.L i ≠ bs ⟨#[114, 101, 103, 105, 111, 110]⟩) := by rw [Hid, hw]; decide
  have HE : ∀ f, Hid (sets C.L C.L.length [] (i + 1) = .error f) → Hid (Px.part C.L (St k) reg s c i = .error f) := fun f hr => by rw [Hid, Px.part, hw, show leadOf kEntry = none from by decide]; simp only; rw [if_neg (show kEntry ≠ kRegion by decide), if_pos trivial, hr.out]
  have HE2 : ∀ l j f, Hid (sets C.L C.L.length [] (i + 1) = .ok (l, j)) → semi C.L j = .error f → Hid (Px.part C.L (St k) reg s c i = .error f) := fun l j f hr hs => by rw [Hid, Px.part, hw, show leadOf kEntry = none from by decide]; simp only; rw [if_neg (show kEntry ≠ kRegion by decide), if_pos trivial, hr.out]; simp only; rw [hs]
  have HO : ∀ l j m, Hid (sets C.L C.L.length [] (i + 1) = .ok (l, j)) → semi C.L j = .ok m → Hid (Px.part C.L (St k) reg s c i = .ok (some ({ s with enter := s.enter ++ l }, c, m))) := fun l j m hr hs => by rw [Hid, Px.part, hw, show leadOf kEntry = none from by decide]; simp only; rw [if_neg (show kEntry ≠ kRegion by decide), if_pos trivial, hr.out]; simp only; rw [hs]
  have hLp := h.wf.pos
  clear hw
  have T0 : Hid True := trivial
  have T1 : Hid True := trivial
  have T2 : Hid True := trivial
  go_enter Tryz.func120, Tryz.ntmps120
  go_wp2_with (first
    | (go_at_call 62; refine (text_is h tb htb).mono ?_; rintro e1 w1 ⟨rfl, hp1, hf1⟩)
    | (go_at_call 134; refine (leadOf_is hp1 tb _ HL).mono ?_; rintro e1 w2 ⟨rfl, hw2⟩; obtain rfl := hw2.symm; rw [leadV])
    | (go_at_call 65; clear T0; refine (take_no hp1 ⟨#[114, 101, 103, 105, 111, 110]⟩ HN0.out).mono ?_; rintro e1 w2 ⟨rfl, hp2, hf2⟩)
    | (go_at_call 65; clear T1; refine (take_yes hp2 ⟨#[101, 110, 116, 114, 121]⟩ HY.out (by decide)).mono ?_; rintro e1 w3 ⟨rfl, hp3, hf3⟩))
  have hS2 := ((hS.carry (X := []) (by simp) (by simp) hf1).carry (X := []) (by simp) (by simp) hf2).carry hX hEne' hf3
  have hF2 := (((hf1.wide (X := [C.rb])).up hf2.wide).up hf3)
  have hB2 := Nat.le_trans hEB hF2.size
  have hdr : Fr w3.heap.size [] w3 w3.drew := (Fr.refl _ _ _).drew
  have hp3' := hp3.same hdr
  obtain ⟨y2, -⟩ := cel hS2.at_ 3 (Value.slice ao s.enter.length cap) rfl
  go_region_law
    (first
      | (refine step_append_lies _ (by rfl) _ _ _ (by rfl) B 203 i0 _ 2 24 Tryz.underlying165 hi hz0 hz1 hz2 rfl (by omega) (Value.slice ao s.enter.length cap) s.enter.length xe (by rfl) (hS4.good.own (sSet s.enter _ xe) (by simp [stSlots]))
            ⟨g4, 0, none⟩ l4.length cap4 xs4 (by rfl) hT4.own.1 (hT4.own.cells (g := g4) rfl) (setRows_one _ _ hT4.rows)
            hpos4 (by unfold maxLen; omega) (by omega) hB4 w4'.heap.size rfl ?_
         intro gg cap' w5' hown5 hgrow hat hlt5
         have hS5 := SU.grow_enter (m := l4) hS4 hEsb hB2 hS2.lts (hT4.rows.map (SetC.carry geNot_ge)) (by rw [List.length_append]; exact hown5) hgrow (by rcases hat with e1 | e1; exact .inl e1.symm; exact .inr (by rw [e1]; simp [Value.ownBlock]))
         have hF5 : Fr B [C.rb, sb] w w5' := (((hF2.x hEB).trans ((hdr.wide.up hf4').x hB2))).grown hgrow hB4 (fun g hg => .inl ((hS4.good.own (sSet s.enter _ xe) (by simp [stSlots])).lt g hg).1)
         have hp5' : PS C w5' j4 c ins 0 := hp4'.low hErb ((Fr.refl B [] w4').grown hgrow hB4 (fun g hg => .inl ((hS4.good.own (sSet s.enter _ xe) (by simp [stSlots])).lt g hg).1))
         have hb5 : w5'.heap[sb]? = some (.cells (stA s.name s.first s.last (Value.slice ao s.enter.length cap) d l p y r) 169 (0, 0)) := by
           rw [hgrow.block sb hl4 (fun e1 => by have := ((hS4.good.own (sSet s.enter (Value.slice ao s.enter.length cap) xe) (by simp [stSlots])).lt sb e1.symm).1; omega)]; exact hS4.at_
         obtain ⟨y5, zy5⟩ := cel hb5 3 (Value.slice ao s.enter.length cap) rfl
         have hp6' := hp5'.put hEne 3 (.slice (some ⟨gg, 0, none⟩) (s.enter.length + l4.length) cap')
         have hF6 := hF5.setCell (p := ⟨sb, 3, none⟩) (.inr (by simp)) (.slice (some ⟨gg, 0, none⟩) (s.enter.length + l4.length) cap'))
      | (go_simp
         go_at_call 136
         refine (sets_any hp3').mono ?_
         rintro e1 w4' h4
         rcases h4.cases with ⟨f, hr4, q, rfl, hq⟩ | ⟨⟨l4, j4⟩, v4, hr4, rfl, ⟨⟨xs4, hT4⟩, hlj4, hp4'⟩, hf4'⟩
         · exact ⟨rfl, by rw [(HE _ hr4).out]; exact Thrown.x ⟨q, rfl, hq⟩ ((hF2.x hEB).drew) hB2 (by simp)⟩
         have hpos4 := sets_pos hLp hr4.out
         have hln4 := (sets_len _ _ _ _ _ hr4.out).1
         simp only [List.length_nil, Nat.add_zero] at hln4
         obtain ⟨g4, cap4, rfl⟩ := hT4.some hpos4
         have hS4 := hS2.carry hX hEne' (hdr.wide.up hf4')
         obtain ⟨y4, zy4⟩ := cel hS4.at_ 3 (Value.slice ao s.enter.length cap) rfl
         have hl4 := lt_of_block hS4.at_
         have hj4l := hp4'.lt
         have hB4 : B ≤ w4'.heap.size := Nat.le_trans hB2 (hdr.wide.up hf4').size))
  all_goals
    go_wp2_with (go_at_call 57; refine (need_any hp6' ⟨#[59]⟩ kSemi rfl (by decide)).mono ?_; rintro e1 w7 h7; rcases h7.cases with ⟨f, hr7, q, rfl, hq⟩ | ⟨_, v7, hr7, rfl, ⟨rfl, hp7⟩, hf7⟩; (· exact ⟨rfl, by rw [(HE2 _ _ _ hr4 (semi_bad hr7)).out]; exact Thrown.x ⟨q, rfl, hq⟩ hF6 (by simp; have := hF5.size; omega) (by simp)⟩))
    go_ret
    rw [(HO _ _ _ hr4 (semi_need hr7)).out]
    exact ⟨_, rfl, ⟨rfl, by omega, ⟨by simp; omega, by (show s.during.length ≤ j4 + 1); omega, by (show s.leave.length ≤ j4 + 1); omega, by (show s.ways.length ≤ j4 + 1); omega, by (show s.regions.length ≤ j4 + 1); omega⟩, hp7, ⟨_, _, _, _, _, _, _, _, _, _, _, hS5.carry hX hEne' hf7⟩⟩, hF6.trans (hf7.x (by simp; have := hF5.size; omega))⟩

set_option maxRecDepth 100000 in
set_option maxHeartbeats 8000000 in
theorem part_during {C : Ctx} {k B sb ins i c : Nat} {w : World} {s : StF (St k)} {reg : Nat → Nat → Except F (List (St k) × Nat × Nat)} (h : PS C w i c ins 0) (hE : Env C B sb w) (hS : SUx k B sb w s) (hb : Bd i s) (hw : tx C.L i = kDuring) : Calls Tryz.prog 120 #[.pointer (some ⟨C.rb, 0, none⟩), .pointer (some ⟨sb, 0, none⟩)] w (OutX B [C.rb, sb] (PartOk C k B sb ins i c s) w (Px.part C.L (St k) reg s c i)) := by
  obtain ⟨i0, hi, hz0, hz1, hz2⟩ := info_parts Tryz.info203
  obtain ⟨e, d, l, p, y, r, xe, xd, xl, xy, xr, hS⟩ := hS
  have hl6 := h.wf.len
  have hil := h.lt
  have hbe := hb.e
  have hbd := hb.d
  have hbl := hb.l
  have hby := hb.y
  have hbr := hb.r
  obtain ⟨hErb, hEsb, hEne, hEB⟩ := hE
  have hEne' : sb ∉ [C.rb] := by simp; omega
  have hX : ∀ x ∈ [C.rb], x < B := by simp; omega
  obtain ⟨tb, htb⟩ : ∃ tb : ByteArray, Hid (bs tb = tx C.L i) := ⟨⟨(tx C.L i).toArray⟩, rfl⟩
  have hoy : w.ownsRow B 203 2 d s.during.length xd := hS.good.own (sSet s.during d xd) (by simp [stSlots])
  obtain ⟨ao, cap, rfl⟩ := owns_shape hoy
  have HL : Hid (leadOf (bs tb) = none) := by rw [Hid, htb.out, hw]; decide
  have HY : Hid _ := hw
  have HN0 : Hid (tx C.L i ≠ bs ⟨#[114, 101, 103, 105, 111, 110]⟩) := by rw [Hid, hw]; decide
  have HN1 : Hid (tx C.L i ≠ bs ⟨#[101, 110, 116, 114, 121]⟩) := by rw [Hid, hw]; decide
  have HE : ∀ f, Hid (sets C.L C.L.length [] (i + 1) = .error f) → Hid (Px.part C.L (St k) reg s c i = .error f) := fun f hr => by rw [Hid, Px.part, hw, show leadOf kDuring = none from by decide]; simp only; rw [if_neg (show kDuring ≠ kRegion by decide), if_neg (show kDuring ≠ kEntry by decide), if_pos trivial, hr.out]
  have HE2 : ∀ l j f, Hid (sets C.L C.L.length [] (i + 1) = .ok (l, j)) → semi C.L j = .error f → Hid (Px.part C.L (St k) reg s c i = .error f) := fun l j f hr hs => by rw [Hid, Px.part, hw, show leadOf kDuring = none from by decide]; simp only; rw [if_neg (show kDuring ≠ kRegion by decide), if_neg (show kDuring ≠ kEntry by decide), if_pos trivial, hr.out]; simp only; rw [hs]
  have HO : ∀ l j m, Hid (sets C.L C.L.length [] (i + 1) = .ok (l, j)) → semi C.L j = .ok m → Hid (Px.part C.L (St k) reg s c i = .ok (some ({ s with during := s.during ++ l }, c, m))) := fun l j m hr hs => by rw [Hid, Px.part, hw, show leadOf kDuring = none from by decide]; simp only; rw [if_neg (show kDuring ≠ kRegion by decide), if_neg (show kDuring ≠ kEntry by decide), if_pos trivial, hr.out]; simp only; rw [hs]
  have hLp := h.wf.pos
  clear hw
  have T0 : Hid True := trivial
  have T1 : Hid True := trivial
  have T2 : Hid True := trivial
  have T3 : Hid True := trivial
  go_enter Tryz.func120, Tryz.ntmps120
  go_wp2_with (first
    | (go_at_call 62; refine (text_is h tb htb).mono ?_; rintro e1 w1 ⟨rfl, hp1, hf1⟩)
    | (go_at_call 134; refine (leadOf_is hp1 tb _ HL).mono ?_; rintro e1 w2 ⟨rfl, hw2⟩; obtain rfl := hw2.symm; rw [leadV])
    | (go_at_call 65; clear T0; refine (take_no hp1 ⟨#[114, 101, 103, 105, 111, 110]⟩ HN0.out).mono ?_; rintro e1 w2 ⟨rfl, hp2, hf2⟩)
    | (go_at_call 65; clear T1; refine (take_no hp2 ⟨#[101, 110, 116, 114, 121]⟩ HN1.out).mono ?_; rintro e1 w3 ⟨rfl, hp3, hf3⟩)
    | (go_at_call 65; clear T2; refine (take_yes hp3 ⟨#[100, 117, 114, 105, 110, 103]⟩ HY.out (by decide)).mono ?_; rintro e1 w4 ⟨rfl, hp4, hf4⟩))
  have hS2 := (((hS.carry (X := []) (by simp) (by simp) hf1).carry (X := []) (by simp) (by simp) hf2).carry (X := []) (by simp) (by simp) hf3).carry hX hEne' hf4
  have hF2 := ((((hf1.wide (X := [C.rb])).up hf2.wide).up hf3.wide).up hf4)
  have hB2 := Nat.le_trans hEB hF2.size
  have hdr : Fr w4.heap.size [] w4 w4.drew := (Fr.refl _ _ _).drew
  have hp3' := hp4.same hdr
  obtain ⟨y2, -⟩ := cel hS2.at_ 4 (Value.slice ao s.during.length cap) rfl
  go_region_law
    (first
      | (refine step_append_lies _ (by rfl) _ _ _ (by rfl) B 203 i0 _ 2 24 Tryz.underlying165 hi hz0 hz1 hz2 rfl (by omega) (Value.slice ao s.during.length cap) s.during.length xd (by rfl) (hS4.good.own (sSet s.during _ xd) (by simp [stSlots]))
            ⟨g4, 0, none⟩ l4.length cap4 xs4 (by rfl) hT4.own.1 (hT4.own.cells (g := g4) rfl) (setRows_one _ _ hT4.rows)
            hpos4 (by unfold maxLen; omega) (by omega) hB4 w4'.heap.size rfl ?_
         intro gg cap' w5' hown5 hgrow hat hlt5
         have hS5 := SU.grow_during (m := l4) hS4 hEsb hB2 hS2.lts (hT4.rows.map (SetC.carry geNot_ge)) (by rw [List.length_append]; exact hown5) hgrow (by rcases hat with e1 | e1; exact .inl e1.symm; exact .inr (by rw [e1]; simp [Value.ownBlock]))
         have hF5 : Fr B [C.rb, sb] w w5' := (((hF2.x hEB).trans ((hdr.wide.up hf4').x hB2))).grown hgrow hB4 (fun g hg => .inl ((hS4.good.own (sSet s.during _ xd) (by simp [stSlots])).lt g hg).1)
         have hp5' : PS C w5' j4 c ins 0 := hp4'.low hErb ((Fr.refl B [] w4').grown hgrow hB4 (fun g hg => .inl ((hS4.good.own (sSet s.during _ xd) (by simp [stSlots])).lt g hg).1))
         have hb5 : w5'.heap[sb]? = some (.cells (stA s.name s.first s.last e (Value.slice ao s.during.length cap) l p y r) 169 (0, 0)) := by
           rw [hgrow.block sb hl4 (fun e1 => by have := ((hS4.good.own (sSet s.during (Value.slice ao s.during.length cap) xd) (by simp [stSlots])).lt sb e1.symm).1; omega)]; exact hS4.at_
         obtain ⟨y5, zy5⟩ := cel hb5 4 (Value.slice ao s.during.length cap) rfl
         have hp6' := hp5'.put hEne 4 (.slice (some ⟨gg, 0, none⟩) (s.during.length + l4.length) cap')
         have hF6 := hF5.setCell (p := ⟨sb, 4, none⟩) (.inr (by simp)) (.slice (some ⟨gg, 0, none⟩) (s.during.length + l4.length) cap'))
      | (go_simp
         go_at_call 136
         refine (sets_any hp3').mono ?_
         rintro e1 w4' h4
         rcases h4.cases with ⟨f, hr4, q, rfl, hq⟩ | ⟨⟨l4, j4⟩, v4, hr4, rfl, ⟨⟨xs4, hT4⟩, hlj4, hp4'⟩, hf4'⟩
         · exact ⟨rfl, by rw [(HE _ hr4).out]; exact Thrown.x ⟨q, rfl, hq⟩ ((hF2.x hEB).drew) hB2 (by simp)⟩
         have hpos4 := sets_pos hLp hr4.out
         have hln4 := (sets_len _ _ _ _ _ hr4.out).1
         simp only [List.length_nil, Nat.add_zero] at hln4
         obtain ⟨g4, cap4, rfl⟩ := hT4.some hpos4
         have hS4 := hS2.carry hX hEne' (hdr.wide.up hf4')
         obtain ⟨y4, zy4⟩ := cel hS4.at_ 4 (Value.slice ao s.during.length cap) rfl
         have hl4 := lt_of_block hS4.at_
         have hj4l := hp4'.lt
         have hB4 : B ≤ w4'.heap.size := Nat.le_trans hB2 (hdr.wide.up hf4').size))
  all_goals
    go_wp2_with (go_at_call 57; refine (need_any hp6' ⟨#[59]⟩ kSemi rfl (by decide)).mono ?_; rintro e1 w7 h7; rcases h7.cases with ⟨f, hr7, q, rfl, hq⟩ | ⟨_, v7, hr7, rfl, ⟨rfl, hp7⟩, hf7⟩; (· exact ⟨rfl, by rw [(HE2 _ _ _ hr4 (semi_bad hr7)).out]; exact Thrown.x ⟨q, rfl, hq⟩ hF6 (by simp; have := hF5.size; omega) (by simp)⟩))
    go_ret
    rw [(HO _ _ _ hr4 (semi_need hr7)).out]
    exact ⟨_, rfl, ⟨rfl, by omega, ⟨by (show s.enter.length ≤ j4 + 1); omega, by simp; omega, by (show s.leave.length ≤ j4 + 1); omega, by (show s.ways.length ≤ j4 + 1); omega, by (show s.regions.length ≤ j4 + 1); omega⟩, hp7, ⟨_, _, _, _, _, _, _, _, _, _, _, hS5.carry hX hEne' hf7⟩⟩, hF6.trans (hf7.x (by simp; have := hF5.size; omega))⟩

set_option maxRecDepth 100000 in
set_option maxHeartbeats 8000000 in
theorem part_leave {C : Ctx} {k B sb ins i c : Nat} {w : World} {s : StF (St k)} {reg : Nat → Nat → Except F (List (St k) × Nat × Nat)} (h : PS C w i c ins 0) (hE : Env C B sb w) (hS : SUx k B sb w s) (hb : Bd i s) (hw : tx C.L i = kExit) : Calls Tryz.prog 120 #[.pointer (some ⟨C.rb, 0, none⟩), .pointer (some ⟨sb, 0, none⟩)] w (OutX B [C.rb, sb] (PartOk C k B sb ins i c s) w (Px.part C.L (St k) reg s c i)) := by
  obtain ⟨i0, hi, hz0, hz1, hz2⟩ := info_parts Tryz.info203
  obtain ⟨e, d, l, p, y, r, xe, xd, xl, xy, xr, hS⟩ := hS
  have hl6 := h.wf.len
  have hil := h.lt
  have hbe := hb.e
  have hbd := hb.d
  have hbl := hb.l
  have hby := hb.y
  have hbr := hb.r
  obtain ⟨hErb, hEsb, hEne, hEB⟩ := hE
  have hEne' : sb ∉ [C.rb] := by simp; omega
  have hX : ∀ x ∈ [C.rb], x < B := by simp; omega
  obtain ⟨tb, htb⟩ : ∃ tb : ByteArray, Hid (bs tb = tx C.L i) := ⟨⟨(tx C.L i).toArray⟩, rfl⟩
  have hoy : w.ownsRow B 203 2 l s.leave.length xl := hS.good.own (sSet s.leave l xl) (by simp [stSlots])
  obtain ⟨ao, cap, rfl⟩ := owns_shape hoy
  have HL : Hid (leadOf (bs tb) = none) := by rw [Hid, htb.out, hw]; decide
  have HY : Hid _ := hw
  have HN0 : Hid (tx C.L i ≠ bs ⟨#[114, 101, 103, 105, 111, 110]⟩) := by rw [Hid, hw]; decide
  have HN1 : Hid (tx C.L i ≠ bs ⟨#[101, 110, 116, 114, 121]⟩) := by rw [Hid, hw]; decide
  have HN2 : Hid (tx C.L i ≠ bs ⟨#[100, 117, 114, 105, 110, 103]⟩) := by rw [Hid, hw]; decide
  have HE : ∀ f, Hid (sets C.L C.L.length [] (i + 1) = .error f) → Hid (Px.part C.L (St k) reg s c i = .error f) := fun f hr => by rw [Hid, Px.part, hw, show leadOf kExit = none from by decide]; simp only; rw [if_neg (show kExit ≠ kRegion by decide), if_neg (show kExit ≠ kEntry by decide), if_neg (show kExit ≠ kDuring by decide), if_pos trivial, hr.out]
  have HE2 : ∀ l j f, Hid (sets C.L C.L.length [] (i + 1) = .ok (l, j)) → semi C.L j = .error f → Hid (Px.part C.L (St k) reg s c i = .error f) := fun l j f hr hs => by rw [Hid, Px.part, hw, show leadOf kExit = none from by decide]; simp only; rw [if_neg (show kExit ≠ kRegion by decide), if_neg (show kExit ≠ kEntry by decide), if_neg (show kExit ≠ kDuring by decide), if_pos trivial, hr.out]; simp only; rw [hs]
  have HO : ∀ l j m, Hid (sets C.L C.L.length [] (i + 1) = .ok (l, j)) → semi C.L j = .ok m → Hid (Px.part C.L (St k) reg s c i = .ok (some ({ s with leave := s.leave ++ l }, c, m))) := fun l j m hr hs => by rw [Hid, Px.part, hw, show leadOf kExit = none from by decide]; simp only; rw [if_neg (show kExit ≠ kRegion by decide), if_neg (show kExit ≠ kEntry by decide), if_neg (show kExit ≠ kDuring by decide), if_pos trivial, hr.out]; simp only; rw [hs]
  have hLp := h.wf.pos
  clear hw
  have T0 : Hid True := trivial
  have T1 : Hid True := trivial
  have T2 : Hid True := trivial
  have T3 : Hid True := trivial
  have T4 : Hid True := trivial
  go_enter Tryz.func120, Tryz.ntmps120
  go_wp2_with (first
    | (go_at_call 62; refine (text_is h tb htb).mono ?_; rintro e1 w1 ⟨rfl, hp1, hf1⟩)
    | (go_at_call 134; refine (leadOf_is hp1 tb _ HL).mono ?_; rintro e1 w2 ⟨rfl, hw2⟩; obtain rfl := hw2.symm; rw [leadV])
    | (go_at_call 65; clear T0; refine (take_no hp1 ⟨#[114, 101, 103, 105, 111, 110]⟩ HN0.out).mono ?_; rintro e1 w2 ⟨rfl, hp2, hf2⟩)
    | (go_at_call 65; clear T1; refine (take_no hp2 ⟨#[101, 110, 116, 114, 121]⟩ HN1.out).mono ?_; rintro e1 w3 ⟨rfl, hp3, hf3⟩)
    | (go_at_call 65; clear T2; refine (take_no hp3 ⟨#[100, 117, 114, 105, 110, 103]⟩ HN2.out).mono ?_; rintro e1 w4 ⟨rfl, hp4, hf4⟩)
    | (go_at_call 65; clear T3; refine (take_yes hp4 ⟨#[101, 120, 105, 116]⟩ HY.out (by decide)).mono ?_; rintro e1 w5 ⟨rfl, hp5, hf5⟩))
  have hS2 := ((((hS.carry (X := []) (by simp) (by simp) hf1).carry (X := []) (by simp) (by simp) hf2).carry (X := []) (by simp) (by simp) hf3).carry (X := []) (by simp) (by simp) hf4).carry hX hEne' hf5
  have hF2 := (((((hf1.wide (X := [C.rb])).up hf2.wide).up hf3.wide).up hf4.wide).up hf5)
  have hB2 := Nat.le_trans hEB hF2.size
  have hdr : Fr w5.heap.size [] w5 w5.drew := (Fr.refl _ _ _).drew
  have hp3' := hp5.same hdr
  obtain ⟨y2, -⟩ := cel hS2.at_ 5 (Value.slice ao s.leave.length cap) rfl
  go_region_law
    (first
      | (refine step_append_lies _ (by rfl) _ _ _ (by rfl) B 203 i0 _ 2 24 Tryz.underlying165 hi hz0 hz1 hz2 rfl (by omega) (Value.slice ao s.leave.length cap) s.leave.length xl (by rfl) (hS4.good.own (sSet s.leave _ xl) (by simp [stSlots]))
            ⟨g4, 0, none⟩ l4.length cap4 xs4 (by rfl) hT4.own.1 (hT4.own.cells (g := g4) rfl) (setRows_one _ _ hT4.rows)
            hpos4 (by unfold maxLen; omega) (by omega) hB4 w4'.heap.size rfl ?_
         intro gg cap' w5' hown5 hgrow hat hlt5
         have hS5 := SU.grow_leave (m := l4) hS4 hEsb hB2 hS2.lts (hT4.rows.map (SetC.carry geNot_ge)) (by rw [List.length_append]; exact hown5) hgrow (by rcases hat with e1 | e1; exact .inl e1.symm; exact .inr (by rw [e1]; simp [Value.ownBlock]))
         have hF5 : Fr B [C.rb, sb] w w5' := (((hF2.x hEB).trans ((hdr.wide.up hf4').x hB2))).grown hgrow hB4 (fun g hg => .inl ((hS4.good.own (sSet s.leave _ xl) (by simp [stSlots])).lt g hg).1)
         have hp5' : PS C w5' j4 c ins 0 := hp4'.low hErb ((Fr.refl B [] w4').grown hgrow hB4 (fun g hg => .inl ((hS4.good.own (sSet s.leave _ xl) (by simp [stSlots])).lt g hg).1))
         have hb5 : w5'.heap[sb]? = some (.cells (stA s.name s.first s.last e d (Value.slice ao s.leave.length cap) p y r) 169 (0, 0)) := by
           rw [hgrow.block sb hl4 (fun e1 => by have := ((hS4.good.own (sSet s.leave (Value.slice ao s.leave.length cap) xl) (by simp [stSlots])).lt sb e1.symm).1; omega)]; exact hS4.at_
         obtain ⟨y5, zy5⟩ := cel hb5 5 (Value.slice ao s.leave.length cap) rfl
         have hp6' := hp5'.put hEne 5 (.slice (some ⟨gg, 0, none⟩) (s.leave.length + l4.length) cap')
         have hF6 := hF5.setCell (p := ⟨sb, 5, none⟩) (.inr (by simp)) (.slice (some ⟨gg, 0, none⟩) (s.leave.length + l4.length) cap'))
      | (go_simp
         go_at_call 136
         refine (sets_any hp3').mono ?_
         rintro e1 w4' h4
         rcases h4.cases with ⟨f, hr4, q, rfl, hq⟩ | ⟨⟨l4, j4⟩, v4, hr4, rfl, ⟨⟨xs4, hT4⟩, hlj4, hp4'⟩, hf4'⟩
         · exact ⟨rfl, by rw [(HE _ hr4).out]; exact Thrown.x ⟨q, rfl, hq⟩ ((hF2.x hEB).drew) hB2 (by simp)⟩
         have hpos4 := sets_pos hLp hr4.out
         have hln4 := (sets_len _ _ _ _ _ hr4.out).1
         simp only [List.length_nil, Nat.add_zero] at hln4
         obtain ⟨g4, cap4, rfl⟩ := hT4.some hpos4
         have hS4 := hS2.carry hX hEne' (hdr.wide.up hf4')
         obtain ⟨y4, zy4⟩ := cel hS4.at_ 5 (Value.slice ao s.leave.length cap) rfl
         have hl4 := lt_of_block hS4.at_
         have hj4l := hp4'.lt
         have hB4 : B ≤ w4'.heap.size := Nat.le_trans hB2 (hdr.wide.up hf4').size))
  all_goals
    go_wp2_with (go_at_call 57; refine (need_any hp6' ⟨#[59]⟩ kSemi rfl (by decide)).mono ?_; rintro e1 w7 h7; rcases h7.cases with ⟨f, hr7, q, rfl, hq⟩ | ⟨_, v7, hr7, rfl, ⟨rfl, hp7⟩, hf7⟩; (· exact ⟨rfl, by rw [(HE2 _ _ _ hr4 (semi_bad hr7)).out]; exact Thrown.x ⟨q, rfl, hq⟩ hF6 (by simp; have := hF5.size; omega) (by simp)⟩))
    go_ret
    rw [(HO _ _ _ hr4 (semi_need hr7)).out]
    exact ⟨_, rfl, ⟨rfl, by omega, ⟨by (show s.enter.length ≤ j4 + 1); omega, by (show s.during.length ≤ j4 + 1); omega, by simp; omega, by (show s.ways.length ≤ j4 + 1); omega, by (show s.regions.length ≤ j4 + 1); omega⟩, hp7, ⟨_, _, _, _, _, _, _, _, _, _, _, hS5.carry hX hEne' hf7⟩⟩, hF6.trans (hf7.x (by simp; have := hF5.size; omega))⟩

/-- the states of a region: region's contract -/
def Region (C : Ctx) (k : Nat) : Prop := ∀ (w : World) (i c ins : Nat), ins + k = 6 → PS C w i c ins 0 → Calls Tryz.prog 66 #[.pointer (some ⟨C.rb, 0, none⟩)] w (Out C (fun x v w' => IsStates (Ge w.heap.size) w' k x.1 v ∧ PS C w' x.2.2 x.2.1 ins 0) w (region C.L k c i))
theorem IsStates.shape {A : Nat → Prop} {w : World} {k : Nat} {l : List (St k)} {v : Value} (h : IsStates A w k l v) : ∃ ao n cap, v = .slice ao n cap := by
  cases k with
  | zero => exact ⟨none, 0, 0, h.2⟩
  | succ k =>
    obtain ⟨xs, hr, _⟩ := h
    obtain ⟨ao, cap, rfl⟩ := owns_shape hr.1
    exact ⟨ao, _, cap, rfl⟩
theorem cell_one_new (w : World) (a : Value) (t : TypeId) : ∀ j u, [a][j]? = some u → (w.alloc (.cells #[a] t)).cell? ((⟨w.heap.size, 0, none⟩ : Addr).add j) = some u := by
  intro j u hj
  match j, hj with
  | 0, hj => simp at hj; subst hj; simp [Addr.add]
  | j + 1, hj => simp at hj
set_option maxRecDepth 100000 in
set_option maxHeartbeats 8000000 in
theorem part_regions {C : Ctx} {k B sb ins i c : Nat} {w : World} {s : StF (St k)} (h : PS C w i c ins 0) (hE : Env C B sb w) (hS : SUx k B sb w s) (hb : Bd i s) (hR : Region C k) (hk : ins + k = 6) (hlt : ∀ c i l c' j, region C.L k c i = .ok (l, c', j) → i < j) (hw : tx C.L i = kRegion) : Calls Tryz.prog 120 #[.pointer (some ⟨C.rb, 0, none⟩), .pointer (some ⟨sb, 0, none⟩)] w (OutX B [C.rb, sb] (PartOk C k B sb ins i c s) w (Px.part C.L (St k) (region C.L k) s c i)) := by
  obtain ⟨i0, hi, hz0, hz1, hz2⟩ := info_parts Tryz.info133
  obtain ⟨e, d, l, p, y, r, xe, xd, xl, xy, xr, hS⟩ := hS
  have hl6 := h.wf.len
  have hil := h.lt
  have hbe := hb.e
  have hbd := hb.d
  have hbl := hb.l
  have hby := hb.y
  have hbr := hb.r
  obtain ⟨hErb, hEsb, hEne, hEB⟩ := hE
  have hEne' : sb ∉ [C.rb] := by simp; omega
  have hX : ∀ x ∈ [C.rb], x < B := by simp; omega
  obtain ⟨tb, htb⟩ : ∃ tb : ByteArray, Hid (bs tb = tx C.L i) := ⟨⟨(tx C.L i).toArray⟩, rfl⟩
  have hoy : w.ownsRow B 133 1 r s.regions.length xr := hS.good.own (sReg k s.regions r xr) (by simp [stSlots])
  obtain ⟨ao, cap, rfl⟩ := owns_shape hoy
  have HL : Hid (leadOf (bs tb) = none) := by rw [Hid, htb.out, hw]; decide
  have HY : Hid _ := hw
  have HE : ∀ f, Hid (region C.L k c (i + 1) = .error f) → Hid (Px.part C.L (St k) (region C.L k) s c i = .error f) := fun f hr => by rw [Hid, Px.part, hw, show leadOf kRegion = none from by decide]; simp only; rw [if_pos trivial, hr.out]
  have HO : ∀ l c' j, Hid (region C.L k c (i + 1) = .ok (l, c', j)) → Hid (Px.part C.L (St k) (region C.L k) s c i = .ok (some ({ s with regions := s.regions ++ [l] }, c', j))) := fun l c' j hr => by rw [Hid, Px.part, hw, show leadOf kRegion = none from by decide]; simp only; rw [if_pos trivial, hr.out]
  clear hw
  have T0 : Hid True := trivial
  have T1 : Hid True := trivial
  go_enter Tryz.func120, Tryz.ntmps120
  go_wp2_with (first
    | (go_at_call 62; refine (text_is h tb htb).mono ?_; rintro e1 w1 ⟨rfl, hp1, hf1⟩)
    | (go_at_call 134; refine (leadOf_is hp1 tb _ HL).mono ?_; rintro e1 w2 ⟨rfl, hw2⟩; obtain rfl := hw2.symm; rw [leadV])
    | (go_at_call 65; clear T0; refine (take_yes hp1 ⟨#[114, 101, 103, 105, 111, 110]⟩ HY.out (by decide)).mono ?_; rintro e1 w2 ⟨rfl, hp2, hf2⟩))
  have hS2 := (hS.carry (X := []) (by simp) (by simp) hf1).carry hX hEne' hf2
  have hF2 := ((hf1.wide (X := [C.rb])).up hf2)
  have hB2 := Nat.le_trans hEB hF2.size
  have hdr : Fr w2.heap.size [] w2 w2.drew := (Fr.refl _ _ _).drew
  have hp3' := hp2.same hdr
  obtain ⟨y2, -⟩ := cel hS2.at_ 8 (Value.slice ao s.regions.length cap) rfl
  go_region_law
    (first
      | (refine step_append_lies _ (by rfl) _ _ _ (by rfl) B 133 i0 _ 1 24 Tryz.underlying33 hi hz0 hz1 hz2 rfl (by omega) (Value.slice ao s.regions.length cap) s.regions.length xr (by rfl) (hA4.good.own (sReg k s.regions _ xr) (by simp [stSlots]))
            ⟨w4'.heap.size, 0, none⟩ 1 1 [.slice ao4 n4 cap4] (by rfl) (by rfl) (cell_one_new w4' _ 133) (by intro u hu; simp at hu; subst hu; rfl)
            (by omega) (by unfold maxLen; omega) (by omega) (by simp; omega) (w4'.heap.size + 1) (by simp) ?_
         intro gg cap' w5' hown5 hgrow hat hlt5
         have hS5 := SU.grow_regions (a := a4) (u := .slice ao4 n4 cap4) hA4 hEsb hB2 hS2.lts ⟨rfl, IsStates.carry (keepX (X := []) (by simp) hal) k _ _ hv4⟩ (by rw [List.length_append]; exact hown5) hgrow (by rcases hat with e1 | e1; exact .inl e1.symm; exact .inr (by rw [e1]; simp [Value.ownBlock]))
         have hF5 : Fr B [C.rb, sb] w w5' := ((((hF2.x hEB).trans ((hdr.wide.up hf4').x hB2)).alloc hB4 _).grown hgrow (by simp; omega) (fun g hg => .inl ((hA4.good.own (sReg k s.regions _ xr) (by simp [stSlots])).lt g hg).1))
         have hp5' : PS C w5' j4 c4 ins 0 := hp4'.low hErb (((Fr.refl B [] w4').alloc hB4 _).grown hgrow (by simp; omega) (fun g hg => .inl ((hA4.good.own (sReg k s.regions _ xr) (by simp [stSlots])).lt g hg).1))
         have hb5 : w5'.heap[sb]? = some (.cells (stA s.name s.first s.last e d l p y (Value.slice ao s.regions.length cap)) 169 (0, 0)) := by
           rw [hgrow.block sb (by simp; omega) (fun e1 => by have := ((hA4.good.own (sReg k s.regions (Value.slice ao s.regions.length cap) xr) (by simp [stSlots])).lt sb e1.symm).1; omega)]; exact hA4.at_
         obtain ⟨y5, zy5⟩ := cel hb5 8 (Value.slice ao s.regions.length cap) rfl)
      | (go_simp
         go_at_call 66
         refine (hR _ (i + 1) c ins hk hp3').mono ?_
         rintro e1 w4' h4
         rcases h4.cases with ⟨f, hr4, q, rfl, hq⟩ | ⟨⟨a4, c4, j4⟩, v4, hr4, rfl, ⟨hv4, hp4'⟩, hf4'⟩
         · exact ⟨rfl, by rw [(HE _ hr4).out]; exact Thrown.x ⟨q, rfl, hq⟩ ((hF2.x hEB).drew) hB2 (by simp)⟩
         obtain ⟨ao4, n4, cap4, rfl⟩ := IsStates.shape hv4
         have hj4 := hlt _ _ _ _ _ hr4.out
         have hS4 := hS2.carry hX hEne' (hdr.wide.up hf4')
         obtain ⟨y4, zy4⟩ := cel hS4.at_ 8 (Value.slice ao s.regions.length cap) rfl
         have hl4 := lt_of_block hS4.at_
         have hB4 : B ≤ w4'.heap.size := Nat.le_trans hB2 (hdr.wide.up hf4').size
         have hal : Fr w4'.heap.size [] w4' (w4'.alloc (.cells #[.slice ao4 n4 cap4] 133)) := (Fr.refl _ _ _).alloc (Nat.le_refl _) _
         have hA4 := hS4.carry (X := []) (by simp) (by simp) hal))
  all_goals
    go_wp2_with fail
    go_ret
    rw [(HO _ _ _ hr4).out]
    exact ⟨_, rfl, ⟨rfl, by omega, ⟨by (show s.enter.length ≤ j4); omega, by (show s.during.length ≤ j4); omega, by (show s.leave.length ≤ j4); omega, by (show s.ways.length ≤ j4); omega, by simp; omega⟩, hp5'.put hEne _ _, ⟨_, _, _, _, _, _, _, _, _, _, _, hS5⟩⟩, hF5.setCell (.inr (by simp)) _⟩

set_option maxRecDepth 100000 in
set_option maxHeartbeats 8000000 in
theorem part_twice {C : Ctx} {k B sb ins i c : Nat} {w : World} {s : StF (St k)} {reg : Nat → Nat → Except F (List (St k) × Nat × Nat)} (h : PS C w i c ins 0) (hE : Env C B sb w) (hS : SUx k B sb w s) (hb : Bd i s) (hw : tx C.L i = kSuspend) (hre : s.rests ≠ .nil) : Calls Tryz.prog 120 #[.pointer (some ⟨C.rb, 0, none⟩), .pointer (some ⟨sb, 0, none⟩)] w (OutX B [C.rb, sb] (PartOk C k B sb ins i c s) w (Px.part C.L (St k) reg s c i)) := by
  obtain ⟨e, d, l, p, y, r, xe, xd, xl, xy, xr, hS⟩ := hS
  have hl6 := h.wf.len
  have hil := h.lt
  have hbe := hb.e
  have hbd := hb.d
  have hbl := hb.l
  have hby := hb.y
  have hbr := hb.r
  obtain ⟨hErb, hEsb, hEne, hEB⟩ := hE
  have hEne' : sb ∉ [C.rb] := by simp; omega
  have hX : ∀ x ∈ [C.rb], x < B := by simp; omega
  obtain ⟨tb, htb⟩ : ∃ tb : ByteArray, Hid (bs tb = tx C.L i) := ⟨⟨(tx C.L i).toArray⟩, rfl⟩
  have HL : Hid (leadOf (bs tb) = none) := by rw [Hid, htb.out, hw]; decide
  have HY : Hid _ := hw
  have HN0 : Hid (tx C.L i ≠ bs ⟨#[114, 101, 103, 105, 111, 110]⟩) := by rw [Hid, hw]; decide
  have HN1 : Hid (tx C.L i ≠ bs ⟨#[101, 110, 116, 114, 121]⟩) := by rw [Hid, hw]; decide
  have HN2 : Hid (tx C.L i ≠ bs ⟨#[100, 117, 114, 105, 110, 103]⟩) := by rw [Hid, hw]; decide
  have HN3 : Hid (tx C.L i ≠ bs ⟨#[101, 120, 105, 116]⟩) := by rw [Hid, hw]; decide
  have hpp : IsE (Nots B (stSlots k s e d l p y r xe xd xl xy xr)) w s.rests p := hS.good.has (sExp s.rests p) (by simp [stSlots])
  obtain ⟨gp, hgp⟩ : ∃ gp, p = .pointer (some gp) := by
    cases hr : s.rests with
    | nil => exact absurd hr hre
    | node b o a l r => rw [hr] at hpp; obtain ⟨g, lv, rv, hpv, _⟩ := hpp; exact ⟨_, hpv⟩
  have HO : Hid (Px.part C.L (St k) reg s c i = .error (9, pl C.L (i + 1))) := by
    rw [Hid, Px.part, hw, show leadOf kSuspend = none from by decide]; simp only; rw [if_neg (show kSuspend ≠ kRegion by decide), if_neg (show kSuspend ≠ kEntry by decide), if_neg (show kSuspend ≠ kDuring by decide), if_neg (show kSuspend ≠ kExit by decide), if_pos trivial]
    cases hr : s.rests with
    | nil => exact absurd hr hre
    | node b o a l r => rfl
  clear hpp
  subst hgp
  clear hw hre
  have T0 : Hid True := trivial
  have T1 : Hid True := trivial
  have T2 : Hid True := trivial
  have T3 : Hid True := trivial
  have T4 : Hid True := trivial
  have T5 : Hid True := trivial
  go_enter Tryz.func120, Tryz.ntmps120
  go_wp2_with (first
    | (go_at_call 62; refine (text_is h tb htb).mono ?_; rintro e1 w1 ⟨rfl, hp1, hf1⟩)
    | (go_at_call 134; refine (leadOf_is hp1 tb _ HL).mono ?_; rintro e1 w2 ⟨rfl, hw2⟩; obtain rfl := hw2.symm; rw [leadV])
    | (go_at_call 65; clear T0; refine (take_no hp1 ⟨#[114, 101, 103, 105, 111, 110]⟩ HN0.out).mono ?_; rintro e1 w2 ⟨rfl, hp2, hf2⟩)
    | (go_at_call 65; clear T1; refine (take_no hp2 ⟨#[101, 110, 116, 114, 121]⟩ HN1.out).mono ?_; rintro e1 w3 ⟨rfl, hp3, hf3⟩)
    | (go_at_call 65; clear T2; refine (take_no hp3 ⟨#[100, 117, 114, 105, 110, 103]⟩ HN2.out).mono ?_; rintro e1 w4 ⟨rfl, hp4, hf4⟩)
    | (go_at_call 65; clear T3; refine (take_no hp4 ⟨#[101, 120, 105, 116]⟩ HN3.out).mono ?_; rintro e1 w5 ⟨rfl, hp5, hf5⟩)
    | (go_at_call 65; clear T4; refine (take_yes hp5 ⟨#[115, 117, 115, 112, 101, 110, 100]⟩ HY.out (by decide)).mono ?_; rintro e1 w6 ⟨rfl, hp6, hf6⟩; have hS6 := (((((hS.carry (X := []) (by simp) (by simp) hf1).carry (X := []) (by simp) (by simp) hf2).carry (X := []) (by simp) (by simp) hf3).carry (X := []) (by simp) (by simp) hf4).carry (X := []) (by simp) (by simp) hf5).carry hX hEne' hf6; obtain ⟨y2, -⟩ := cel hS6.at_ 6 (Value.pointer (some gp)) rfl)
    | (go_at_call 67; refine (throw_any hp6 9).mono ?_; rintro e1 w7 ⟨q, rfl, hq⟩; exact ⟨rfl, by rw [HO.out]; exact Thrown.x ⟨q, rfl, hq⟩ (((((((hf1.wide (X := [C.rb])).up hf2.wide).up hf3.wide).up hf4.wide).up hf5.wide).up hf6).x hEB) (Nat.le_trans hEB ((((((hf1.wide (X := [C.rb])).up hf2.wide).up hf3.wide).up hf4.wide).up hf5.wide).up hf6).size) (by simp)⟩))

set_option maxRecDepth 100000 in
set_option maxHeartbeats 8000000 in
theorem part_rests {C : Ctx} {k B sb ins i c : Nat} {w : World} {s : StF (St k)} {reg : Nat → Nat → Except F (List (St k) × Nat × Nat)} (h : PS C w i c ins 0) (hE : Env C B sb w) (hS : SUx k B sb w s) (hb : Bd i s) (hw : tx C.L i = kSuspend) (hre : s.rests = .nil) : Calls Tryz.prog 120 #[.pointer (some ⟨C.rb, 0, none⟩), .pointer (some ⟨sb, 0, none⟩)] w (OutX B [C.rb, sb] (PartOk C k B sb ins i c s) w (Px.part C.L (St k) reg s c i)) := by
  obtain ⟨e, d, l, p, y, r, xe, xd, xl, xy, xr, hS⟩ := hS
  have hl6 := h.wf.len
  have hil := h.lt
  have hbe := hb.e
  have hbd := hb.d
  have hbl := hb.l
  have hby := hb.y
  have hbr := hb.r
  obtain ⟨hErb, hEsb, hEne, hEB⟩ := hE
  have hEne' : sb ∉ [C.rb] := by simp; omega
  have hX : ∀ x ∈ [C.rb], x < B := by simp; omega
  obtain ⟨tb, htb⟩ : ∃ tb : ByteArray, Hid (bs tb = tx C.L i) := ⟨⟨(tx C.L i).toArray⟩, rfl⟩
  have HL : Hid (leadOf (bs tb) = none) := by rw [Hid, htb.out, hw]; decide
  have HY : Hid _ := hw
  have HN0 : Hid (tx C.L i ≠ bs ⟨#[114, 101, 103, 105, 111, 110]⟩) := by rw [Hid, hw]; decide
  have HN1 : Hid (tx C.L i ≠ bs ⟨#[101, 110, 116, 114, 121]⟩) := by rw [Hid, hw]; decide
  have HN2 : Hid (tx C.L i ≠ bs ⟨#[100, 117, 114, 105, 110, 103]⟩) := by rw [Hid, hw]; decide
  have HN3 : Hid (tx C.L i ≠ bs ⟨#[101, 120, 105, 116]⟩) := by rw [Hid, hw]; decide
  have hpp : IsE (Nots B (stSlots k s e d l p y r xe xd xl xy xr)) w s.rests p := hS.good.has (sExp s.rests p) (by simp [stSlots])
  have hp0 : p = .pointer none := by rw [hre] at hpp; exact hpp
  clear hpp
  subst hp0
  have HE : ∀ f, Hid (expr C.L (i + 1) = .error f) → Hid (Px.part C.L (St k) reg s c i = .error f) := fun f hr => by rw [Hid, Px.part, hw, show leadOf kSuspend = none from by decide]; simp only; rw [if_neg (show kSuspend ≠ kRegion by decide), if_neg (show kSuspend ≠ kEntry by decide), if_neg (show kSuspend ≠ kDuring by decide), if_neg (show kSuspend ≠ kExit by decide), if_pos trivial, hre]; simp only; rw [hr.out]
  have HE2 : ∀ t j f, Hid (expr C.L (i + 1) = .ok (t, j)) → semi C.L j = .error f → Hid (Px.part C.L (St k) reg s c i = .error f) := fun t j f hr hs => by rw [Hid, Px.part, hw, show leadOf kSuspend = none from by decide]; simp only; rw [if_neg (show kSuspend ≠ kRegion by decide), if_neg (show kSuspend ≠ kEntry by decide), if_neg (show kSuspend ≠ kDuring by decide), if_neg (show kSuspend ≠ kExit by decide), if_pos trivial, hre]; simp only; rw [hr.out]; simp only; rw [hs]
  have HO : ∀ t j m, Hid (expr C.L (i + 1) = .ok (t, j)) → semi C.L j = .ok m → Hid (Px.part C.L (St k) reg s c i = .ok (some ({ s with rests := t }, c, m))) := fun t j m hr hs => by rw [Hid, Px.part, hw, show leadOf kSuspend = none from by decide]; simp only; rw [if_neg (show kSuspend ≠ kRegion by decide), if_neg (show kSuspend ≠ kEntry by decide), if_neg (show kSuspend ≠ kDuring by decide), if_neg (show kSuspend ≠ kExit by decide), if_pos trivial, hre]; simp only; rw [hr.out]; simp only; rw [hs]
  clear hw hre
  have T0 : Hid True := trivial
  have T1 : Hid True := trivial
  have T2 : Hid True := trivial
  have T3 : Hid True := trivial
  have T4 : Hid True := trivial
  have T5 : Hid True := trivial
  go_enter Tryz.func120, Tryz.ntmps120
  go_wp2_with (first
    | (go_at_call 62; refine (text_is h tb htb).mono ?_; rintro e1 w1 ⟨rfl, hp1, hf1⟩)
    | (go_at_call 134; refine (leadOf_is hp1 tb _ HL).mono ?_; rintro e1 w2 ⟨rfl, hw2⟩; obtain rfl := hw2.symm; rw [leadV])
    | (go_at_call 65; clear T0; refine (take_no hp1 ⟨#[114, 101, 103, 105, 111, 110]⟩ HN0.out).mono ?_; rintro e1 w2 ⟨rfl, hp2, hf2⟩)
    | (go_at_call 65; clear T1; refine (take_no hp2 ⟨#[101, 110, 116, 114, 121]⟩ HN1.out).mono ?_; rintro e1 w3 ⟨rfl, hp3, hf3⟩)
    | (go_at_call 65; clear T2; refine (take_no hp3 ⟨#[100, 117, 114, 105, 110, 103]⟩ HN2.out).mono ?_; rintro e1 w4 ⟨rfl, hp4, hf4⟩)
    | (go_at_call 65; clear T3; refine (take_no hp4 ⟨#[101, 120, 105, 116]⟩ HN3.out).mono ?_; rintro e1 w5 ⟨rfl, hp5, hf5⟩)
    | (go_at_call 65; clear T4; refine (take_yes hp5 ⟨#[115, 117, 115, 112, 101, 110, 100]⟩ HY.out (by decide)).mono ?_; rintro e1 w6 ⟨rfl, hp6, hf6⟩; have hS6 := (((((hS.carry (X := []) (by simp) (by simp) hf1).carry (X := []) (by simp) (by simp) hf2).carry (X := []) (by simp) (by simp) hf3).carry (X := []) (by simp) (by simp) hf4).carry (X := []) (by simp) (by simp) hf5).carry hX hEne' hf6; obtain ⟨y2, -⟩ := cel hS6.at_ 6 (Value.pointer none) rfl; have hF6 := ((((((hf1.wide (X := [C.rb])).up hf2.wide).up hf3.wide).up hf4.wide).up hf5.wide).up hf6); have hB6 := Nat.le_trans hEB hF6.size)
    | (go_at_call 137; refine (expr_any hp6).mono ?_; rintro e1 w7 h7; rcases h7.cases with ⟨f, hr7, q, rfl, hq⟩ | ⟨⟨t7, j7⟩, v7, hr7, rfl, ⟨hv7, hp7⟩, hf7⟩; (· exact ⟨rfl, by rw [(HE _ hr7).out]; exact Thrown.x ⟨q, rfl, hq⟩ (hF6.x hEB) hB6 (by simp)⟩); obtain ⟨u7, rfl⟩ := hv7.ptr; have hS7 := hS6.carry hX hEne' hf7; obtain ⟨y7, z7⟩ := cel hS7.at_ 6 (Value.pointer none) rfl; have hS8 := SU.grow_rests hS7 hEsb hB6 hS6.lts hv7; have hj7 := expr_lt hr7; have hp8 := hp7.put hEne 6 (.pointer u7); have hF7 : Fr B [C.rb, sb] w w7 := (hF6.x hEB).trans (hf7.x hB6); have hB7 := hf7.size; have hF8 := hF7.setCell (p := ⟨sb, 6, none⟩) (.inr (by simp)) (.pointer u7))
    | (go_at_call 57; refine (need_any hp8 ⟨#[59]⟩ kSemi rfl (by decide)).mono ?_; rintro e1 w9 h9; rcases h9.cases with ⟨f, hr9, q, rfl, hq⟩ | ⟨_, v9, hr9, rfl, ⟨rfl, hp9⟩, hf9⟩; (· exact ⟨rfl, by rw [(HE2 _ _ _ hr7 (semi_bad hr9)).out]; exact Thrown.x ⟨q, rfl, hq⟩ hF8 (by simp; omega) (by simp)⟩)))
  go_ret
  rw [(HO _ _ _ hr7 (semi_need hr9)).out]
  exact ⟨_, rfl, ⟨rfl, by omega, ⟨by (show s.enter.length ≤ j7 + 1); omega, by (show s.during.length ≤ j7 + 1); omega, by (show s.leave.length ≤ j7 + 1); omega, by (show s.ways.length ≤ j7 + 1); omega, by (show s.regions.length ≤ j7 + 1); omega⟩, hp9, ⟨_, _, _, _, _, _, _, _, _, _, _, hS8.carry hX hEne' hf9⟩⟩, hF8.trans (hf9.x (by simp; omega))⟩

set_option maxRecDepth 100000 in
set_option maxHeartbeats 8000000 in
theorem part_none {C : Ctx} {k B sb ins i c : Nat} {w : World} {s : StF (St k)} {reg : Nat → Nat → Except F (List (St k) × Nat × Nat)} (h : PS C w i c ins 0) (hE : Env C B sb w) (hS : SUx k B sb w s) (hb : Bd i s) (hl : leadOf (tx C.L i) = none) (hn0 : tx C.L i ≠ kRegion) (hn1 : tx C.L i ≠ kEntry) (hn2 : tx C.L i ≠ kDuring) (hn3 : tx C.L i ≠ kExit) (hn4 : tx C.L i ≠ kSuspend) : Calls Tryz.prog 120 #[.pointer (some ⟨C.rb, 0, none⟩), .pointer (some ⟨sb, 0, none⟩)] w (OutX B [C.rb, sb] (PartOk C k B sb ins i c s) w (Px.part C.L (St k) reg s c i)) := by
  obtain ⟨e, d, l, p, y, r, xe, xd, xl, xy, xr, hS⟩ := hS
  have hl6 := h.wf.len
  have hil := h.lt
  have hbe := hb.e
  have hbd := hb.d
  have hbl := hb.l
  have hby := hb.y
  have hbr := hb.r
  obtain ⟨hErb, hEsb, hEne, hEB⟩ := hE
  have hEne' : sb ∉ [C.rb] := by simp; omega
  have hX : ∀ x ∈ [C.rb], x < B := by simp; omega
  obtain ⟨tb, htb⟩ : ∃ tb : ByteArray, Hid (bs tb = tx C.L i) := ⟨⟨(tx C.L i).toArray⟩, rfl⟩
  have HL : Hid (leadOf (bs tb) = none) := by rw [Hid, htb.out]; exact hl
  have HO : Hid (Px.part C.L (St k) reg s c i = .ok none) := by rw [Hid, Px.part, hl]; simp only; rw [if_neg hn0, if_neg hn1, if_neg hn2, if_neg hn3, if_neg hn4]
  have HN0 : Hid _ := hn0
  have HN1 : Hid _ := hn1
  have HN2 : Hid _ := hn2
  have HN3 : Hid _ := hn3
  have HN4 : Hid _ := hn4
  clear hl hn0 hn1 hn2 hn3 hn4
  have T0 : Hid True := trivial
  have T1 : Hid True := trivial
  have T2 : Hid True := trivial
  have T3 : Hid True := trivial
  have T4 : Hid True := trivial
  have T5 : Hid True := trivial
  go_enter Tryz.func120, Tryz.ntmps120
  go_wp2_with (first
    | (go_at_call 62; refine (text_is h tb htb).mono ?_; rintro e1 w1 ⟨rfl, hp1, hf1⟩)
    | (go_at_call 134; refine (leadOf_is hp1 tb _ HL).mono ?_; rintro e1 w2 ⟨rfl, hw2⟩; obtain rfl := hw2.symm; rw [leadV])
    | (go_at_call 65; clear T0; refine (take_no hp1 ⟨#[114, 101, 103, 105, 111, 110]⟩ HN0.out).mono ?_; rintro e1 w2 ⟨rfl, hp2, hf2⟩)
    | (go_at_call 65; clear T1; refine (take_no hp2 ⟨#[101, 110, 116, 114, 121]⟩ HN1.out).mono ?_; rintro e1 w3 ⟨rfl, hp3, hf3⟩)
    | (go_at_call 65; clear T2; refine (take_no hp3 ⟨#[100, 117, 114, 105, 110, 103]⟩ HN2.out).mono ?_; rintro e1 w4 ⟨rfl, hp4, hf4⟩)
    | (go_at_call 65; clear T3; refine (take_no hp4 ⟨#[101, 120, 105, 116]⟩ HN3.out).mono ?_; rintro e1 w5 ⟨rfl, hp5, hf5⟩)
    | (go_at_call 65; clear T4; refine (take_no hp5 ⟨#[115, 117, 115, 112, 101, 110, 100]⟩ HN4.out).mono ?_; rintro e1 w6 ⟨rfl, hp6, hf6⟩))
  go_ret
  rw [HO.out]
  exact ⟨_, rfl, ⟨rfl, hp6, ⟨_, _, _, _, _, _, _, _, _, _, _, (((((hS.carry (X := []) (by simp) (by simp) hf1).carry (X := []) (by simp) (by simp) hf2).carry (X := []) (by simp) (by simp) hf3).carry (X := []) (by simp) (by simp) hf4).carry (X := []) (by simp) (by simp) hf5).carry hX hEne' hf6.wide⟩⟩, ((((((hf1.wide (X := [C.rb])).up hf2.wide).up hf3.wide).up hf4.wide).up hf5.wide).up hf6.wide).x hEB⟩

theorem part_any {C : Ctx} {k B sb ins i c : Nat} {w : World} {s : StF (St k)} (h : PS C w i c ins 0) (hE : Env C B sb w) (hS : SUx k B sb w s) (hb : Bd i s) (hR : Region C k) (hk : ins + k = 6) (hlt : ∀ c i l c' j, region C.L k c i = .ok (l, c', j) → i < j) : Calls Tryz.prog 120 #[.pointer (some ⟨C.rb, 0, none⟩), .pointer (some ⟨sb, 0, none⟩)] w (OutX B [C.rb, sb] (PartOk C k B sb ins i c s) w (Px.part C.L (St k) (region C.L k) s c i)) := by
  cases hl : leadOf (tx C.L i) with
  | some kd => exact part_way h hE hS hb kd hl
  | none =>
    by_cases h0 : tx C.L i = kRegion
    · exact part_regions h hE hS hb hR hk hlt h0
    · by_cases h1 : tx C.L i = kEntry
      · exact part_enter h hE hS hb h1
      · by_cases h2 : tx C.L i = kDuring
        · exact part_during h hE hS hb h2
        · by_cases h3 : tx C.L i = kExit
          · exact part_leave h hE hS hb h3
          · by_cases h4 : tx C.L i = kSuspend
            · cases hr : s.rests with
              | nil => exact part_rests h hE hS hb h4 hr
              | node b o a l r => exact part_twice h hE hS hb h4 (by rw [hr]; simp)
            · exact part_none h hE hS hb hl h0 h1 h2 h3 h4
end Go.Proofs.YtiihgnagjemikaaGreatDoor
/- Plain mathematics: each piece that is read goes on. -/
namespace Go.Proofs.YtiihgnagjemikaaGreatDoor
open Go.RowKit Px

theorem semi_lt {L : List Lx.Tok} {i m : Nat} (h : semi L i = .ok m) : i < m := by
  rw [semi] at h
  split at h
  · injection h with h; omega
  · exact absurd h (by simp)
theorem opt_le (L : List Lx.Tok) (k : Str) (i : Nat) : i ≤ opt L k i := by unfold opt; split <;> omega
theorem part_lt {L : List Lx.Tok} {ρ : Type} {reg : Nat → Nat → Except F (List ρ × Nat × Nat)} (hr : ∀ c i l c' j, reg c i = .ok (l, c', j) → i < j) {s s' : StF ρ} {c i c' j : Nat} (h : Px.part L ρ reg s c i = .ok (some (s', c', j))) : i < j := by
  rw [Px.part] at h
  split at h
  · split at h
    · exact absurd h (by simp)
    · rename_i hy
      have := way_lt hy
      injection h with h; injection h with h; injection h with _ h; injection h with _ h; omega
  · split at h
    · split at h
      · exact absurd h (by simp)
      · rename_i hy
        have := hr _ _ _ _ _ hy
        injection h with h; injection h with h; injection h with _ h; injection h with _ h; omega
    · split at h
      · split at h
        · exact absurd h (by simp)
        · rename_i hy
          have h1 := (sets_len _ _ _ _ _ hy).1
          simp at h1
          split at h
          · exact absurd h (by simp)
          · rename_i hm
            have := semi_lt hm
            injection h with h; injection h with h; injection h with _ h; injection h with _ h; omega
      · split at h
        · split at h
          · exact absurd h (by simp)
          · rename_i hy
            have h1 := (sets_len _ _ _ _ _ hy).1
            simp at h1
            split at h
            · exact absurd h (by simp)
            · rename_i hm
              have := semi_lt hm
              injection h with h; injection h with h; injection h with _ h; injection h with _ h; omega
        · split at h
          · split at h
            · exact absurd h (by simp)
            · rename_i hy
              have h1 := (sets_len _ _ _ _ _ hy).1
              simp at h1
              split at h
              · exact absurd h (by simp)
              · rename_i hm
                have := semi_lt hm
                injection h with h; injection h with h; injection h with _ h; injection h with _ h; omega
          · split at h
            · split at h
              · split at h
                · exact absurd h (by simp)
                · rename_i hy
                  have h1 := expr_lt hy
                  split at h
                  · exact absurd h (by simp)
                  · rename_i hm
                    have := semi_lt hm
                    injection h with h; injection h with h; injection h with _ h; injection h with _ h; omega
              · exact absurd h (by simp)
            · exact absurd h (by simp)
theorem parts_le {L : List Lx.Tok} {ρ : Type} {reg : Nat → Nat → Except F (List ρ × Nat × Nat)} (hr : ∀ c i l c' j, reg c i = .ok (l, c', j) → i < j) : ∀ (f : Nat) (s : StF ρ) (c i : Nat) (s' : StF ρ) (c' j : Nat), parts L ρ reg f s c i = .ok (s', c', j) → i ≤ j := by
  intro f
  induction f with
  | zero => intro s c i s' c' j h; rw [parts] at h; injection h with h; injection h with _ h; injection h with _ h; omega
  | succ f ih =>
    intro s c i s' c' j h
    rw [parts] at h
    split at h
    · exact absurd h (by simp)
    · split at h
      · injection h with h; injection h with _ h; injection h with _ h; omega
      · exact absurd h (by simp)
    · rename_i hp
      have h1 := part_lt hr hp
      have h2 := ih _ _ _ _ _ _ h
      omega
theorem state_lt {L : List Lx.Tok} {ρ : Type} {reg : Nat → Nat → Except F (List ρ × Nat × Nat)} (hr : ∀ c i l c' j, reg c i = .ok (l, c', j) → i < j) {fi la : Bool} {c i c' j : Nat} {s : StF ρ} (h : state L ρ reg fi la c i = .ok (s, c', j)) : i < j := by
  rw [state] at h
  split at h
  · split at h
    · exact absurd h (by simp)
    · split at h
      · exact absurd h (by simp)
      · split at h
        · injection h with h; injection h with _ h; injection h with _ h; omega
        · split at h
          · have := parts_le hr _ _ _ _ _ _ _ h; omega
          · exact absurd h (by simp)
  · exact absurd h (by simp)
theorem states_le {L : List Lx.Tok} {ρ : Type} {reg : Nat → Nat → Except F (List ρ × Nat × Nat)} (hr : ∀ c i l c' j, reg c i = .ok (l, c', j) → i < j) : ∀ (f : Nat) (l : List (StF ρ)) (c i : Nat) (l' : List (StF ρ)) (c' j : Nat), states L ρ reg f l c i = .ok (l', c', j) → i ≤ j := by
  intro f
  induction f with
  | zero => intro l c i l' c' j h; rw [states] at h; injection h with h; injection h with _ h; injection h with _ h; omega
  | succ f ih =>
    intro l c i l' c' j h
    rw [states] at h
    split at h
    · split at h
      · exact absurd h (by simp)
      · rename_i hs
        have h1 := state_lt hr hs
        have h2 := ih _ _ _ _ _ _ h
        have h3 := opt_le L kInitial i
        have h4 := opt_le L kFinal (opt L kInitial i)
        omega
    · split at h
      · injection h with h; injection h with _ h; injection h with _ h; omega
      · exact absurd h (by simp)
theorem region_lt {L : List Lx.Tok} : ∀ (k c i : Nat) (l : List (St k)) (c' j : Nat), region L k c i = .ok (l, c', j) → i < j := by
  intro k
  induction k with
  | zero => intro c i l c' j h; rw [region] at h; exact absurd h (by simp)
  | succ k ih =>
    intro c i l c' j h
    have h' : (if tx L i = kOpen then states L (St k) (region L k) L.length [] c (i + 1) else .error (3, pl L i)) = .ok (l, c', j) := h
    by_cases ho : tx L i = kOpen
    · rw [if_pos ho] at h'
      have := states_le ih _ _ _ _ _ _ _ h'; omega
    · rw [if_neg ho] at h'
      exact absurd h' (by simp)
end Go.Proofs.YtiihgnagjemikaaGreatDoor
/- braced around the parts of a state: the closure is met by its contract. -/
namespace Go.Proofs.YtiihgnagjemikaaGreatDoor
open Go.RowKit Px

set_option maxRecDepth 100000 in
set_option maxHeartbeats 2000000 in
theorem braced134 {C : Ctx} {w : World} {i st ins : Nat} {c1 c2 : Value} (h : PS C w i st ins 0) (R : Ending → World → Prop) (Inv : Nat → World → Prop) (Fin : World → Prop) (g0 : Nat)
    (herr : tx C.L i ≠ kOpen → ∀ e w', Thrown C w (3, pl C.L i) e w' → R e w')
    (hstart : tx C.L i = kOpen → ∀ w1, PS C w1 (i + 1) st ins 0 → Fr w.heap.size [C.rb] w w1 → Inv g0 w1)
    (hround : ∀ g w1, Inv g w1 → Calls Tryz.prog 119 #[c1, c2] w1 fun e w2 => (e = .returned (.bool true) ∧ ∃ g', g' < g ∧ Inv g' w2) ∨ (e = .returned (.bool false) ∧ Fin w2) ∨ (∃ ch, e = .panicked ch ∧ R e w2))
    (hfin : ∀ w2, Fin w2 → ∃ j st', PS C w2 j st' ins 0 ∧ (tx C.L j ≠ kShut → ∀ e w3, Thrown C w2 (3, pl C.L j) e w3 → R e w3) ∧ (tx C.L j = kShut → ∀ w3, PS C w3 (j + 1) st' ins 0 → Fr w2.heap.size [C.rb] w2 w3 → R (.returned (.tuple #[])) w3)) :
    Calls Tryz.prog 59 #[.pointer (some ⟨C.rb, 0, none⟩), .func (.func 119) #[] #[c1, c2]] w R := by
  have HE : Hid _ := herr
  have HS : Hid _ := hstart
  have HR : Hid _ := hround
  have HF : Hid _ := hfin
  clear herr hstart hround hfin
  go_enter Tryz.func59, Tryz.ntmps59
  go_wp2_with (go_at_call 57; refine (need_any h ⟨#[123]⟩ kOpen rfl (by decide)).mono ?_; rintro e w1 h1; rcases h1.cases with ⟨f, hr1, q, rfl, hq⟩ | ⟨_, v1, hr1, rfl, ⟨rfl, hp1⟩, hf1⟩; (· exact ⟨rfl, HE.out (need_bad hr1).1 _ _ (by rw [← (need_bad hr1).2]; exact ⟨q, rfl, hq⟩)⟩))
  have hI : Hid _ := HS.out (need_ok hr1) w1 hp1 hf1
  go_loopg [] g0 (fun g wr => Hid (Inv g wr))
  case atStart => exact hI
  case round =>
    go_wp2_with fail
    refine (HR.out _ _ hrel.out).mono ?_
    rintro e w2 (⟨rfl, g', hg', hi'⟩ | ⟨rfl, hfn⟩ | ⟨ch, rfl, hR⟩)
    · go_wp2_with fail
      go_roundg g'
      case measure => exact hg'
      case rel => exact hi'
    · obtain ⟨j, st', hp2, hb1, hb2⟩ := HF.out w2 hfn
      have HB1 : Hid _ := hb1
      have HB2 : Hid _ := hb2
      clear hb1 hb2
      go_wp2_with (go_at_call 57; refine (need_any hp2 ⟨#[125]⟩ kShut rfl (by decide)).mono ?_; rintro e w3 h3; rcases h3.cases with ⟨f, hr3, q, rfl, hq⟩ | ⟨_, v3, hr3, rfl, ⟨rfl, hp3⟩, hf3⟩; (· exact ⟨rfl, HB1.out (need_bad hr3).1 _ _ (by rw [← (need_bad hr3).2]; exact ⟨q, rfl, hq⟩)⟩))
      go_end0
      exact HB2.out (need_ok hr3) w3 hp3 hf3
    · exact ⟨rfl, hR⟩
end Go.Proofs.YtiihgnagjemikaaGreatDoor
/- state: what stands behind initial and final. -/
namespace Go.Proofs.YtiihgnagjemikaaGreatDoor
open Go.RowKit Px

theorem OutX.cases {B : Nat} {X : List Nat} {α : Type} {ok : α → Value → World → Prop} {w : World} {r : Except F α} {e : Ending} {w' : World} (h : OutX B X ok w r e w') : (∃ f, Hid (r = .error f) ∧ ThrownX B X w f e w') ∨ (∃ a v, Hid (r = .ok a) ∧ e = .returned v ∧ ok a v w' ∧ Fr B X w w') := by
  cases r with
  | error f => exact .inl ⟨f, rfl, h⟩
  | ok a => obtain ⟨v, h1, h2, h3⟩ := h; exact .inr ⟨a, v, rfl, h1, h2, h3⟩
theorem ThrownX.up {B : Nat} {X : List Nat} {w w1 w' : World} {f : F} {e : Ending} (h : ThrownX B X w1 f e w') (hf : Fr B X w w1) : ThrownX B X w f e w' := by
  obtain ⟨q, h1, h2, h3, h4⟩ := h
  exact ⟨q, h1, h2, Nat.le_trans hf.size h3, hf.trans h4⟩
/-- the two variables that the closure holds -/
structure Boxes (C : Ctx) (B sb ba bb : Nat) (w : World) : Prop where
  a : w.cell? ⟨ba, 0, none⟩ = some (.pointer (some ⟨C.rb, 0, none⟩))
  b : w.cell? ⟨bb, 0, none⟩ = some (.pointer (some ⟨sb, 0, none⟩))
  la : ba < B
  lb : bb < B
  na : ba ∉ [C.rb, sb]
  nb : bb ∉ [C.rb, sb]
theorem Boxes.carry {C : Ctx} {B sb ba bb : Nat} {w w' : World} (h : Boxes C B sb ba bb w) (hf : Fr B [C.rb, sb] w w') : Boxes C B sb ba bb w' :=
  ⟨by rw [hf.cell (p := ⟨ba, 0, none⟩) h.la h.na]; exact h.a, by rw [hf.cell (p := ⟨bb, 0, none⟩) h.lb h.nb]; exact h.b, h.la, h.lb, h.na, h.nb⟩

set_option maxRecDepth 100000 in
set_option maxHeartbeats 2000000 in
theorem state1_any {C : Ctx} {k B sb ins i c ba bb : Nat} {w : World} {s : StF (St k)} (h : PS C w i c ins 0) (hE : Env C B sb w) (hS : SUx k B sb w s) (hb : Bd i s) (hR : Region C k) (hk : ins + k = 6) (hx : Boxes C B sb ba bb w) :
    Calls Tryz.prog 119 #[.pointer (some ⟨ba, 0, none⟩), .pointer (some ⟨bb, 0, none⟩)] w (OutX B [C.rb, sb] (PartOk C k B sb ins i c s) w (Px.part C.L (St k) (region C.L k) s c i)) := by
  have x1 := hx.a
  have x2 := hx.b
  have hp := part_any h hE hS hb hR hk (region_lt k)
  go_enter Tryz.func119, Tryz.ntmps119
  go_wp2_with (go_at_call 120; refine hp.mono ?_; rintro e w1 h1; rcases h1.cases with ⟨f, hr, q, rfl, hq⟩ | ⟨a, v, hr, rfl, hv, hf⟩; (· exact ⟨rfl, by rw [hr.out]; exact ⟨q, rfl, hq⟩⟩))
  go_ret
  rw [hr.out]
  exact ⟨v, rfl, hv, hf⟩

def StOk (C : Ctx) (k B sb ins : Nat) (x : StF (St k) × Nat × Nat) (v : Value) (w' : World) : Prop := v = .tuple #[] ∧ PS C w' x.2.2 x.2.1 ins 0 ∧ SUx k B sb w' x.1
theorem Env.carry {C : Ctx} {B sb : Nat} {w w' : World} (h : Env C B sb w) (hs : w.heap.size ≤ w'.heap.size) : Env C B sb w' := ⟨h.hrb, h.hsb, h.hne, Nat.le_trans h.hB hs⟩

theorem brace_state {C : Ctx} {k B sb ins i c ba bb : Nat} {w : World} {s : StF (St k)} (h : PS C w i c ins 0) (hE : Env C B sb w) (hS : SUx k B sb w s) (hb : Bd i s) (hR : Region C k) (hk : ins + k = 6) (hx : Boxes C B sb ba bb w) :
    Calls Tryz.prog 59 #[.pointer (some ⟨C.rb, 0, none⟩), .func (.func 119) #[] #[.pointer (some ⟨ba, 0, none⟩), .pointer (some ⟨bb, 0, none⟩)]] w
      (OutX B [C.rb, sb] (StOk C k B sb ins) w (if tx C.L i = kOpen then parts C.L (St k) (region C.L k) C.L.length s c (i + 1) else .error (3, pl C.L i))) := by
  obtain ⟨RES, hRES⟩ : ∃ RES, RES = (if tx C.L i = kOpen then parts C.L (St k) (region C.L k) C.L.length s c (i + 1) else .error (3, pl C.L i)) := ⟨_, rfl⟩
  rw [← hRES]
  have hX : ∀ x ∈ [C.rb], x < B := by have := hE.hrb; simp; omega
  have hsn : sb ∉ [C.rb] := by have := hE.hne; simp; omega
  have carS : ∀ {w1 w2 : World} {s1 : StF (St k)}, SUx k B sb w1 s1 → Fr w1.heap.size [C.rb] w1 w2 → SUx k B sb w2 s1 := by
    rintro w1 w2 s1 ⟨e, d, l, p, y, r, xe, xd, xl, xy, xr, hs⟩ hf
    exact ⟨e, d, l, p, y, r, xe, xd, xl, xy, xr, hs.carry hX hsn hf⟩
  refine braced134 h _ (fun g w1 => ∃ (s1 : StF (St k)) (c1 j : Nat), RES = parts C.L (St k) (region C.L k) g s1 c1 j ∧ C.L.length ≤ g + j ∧ Bd j s1 ∧ PS C w1 j c1 ins 0 ∧ SUx k B sb w1 s1 ∧ Fr B [C.rb, sb] w w1)
    (fun w2 => ∃ (s1 : StF (St k)) (c1 j : Nat), RES = (if tx C.L j = kShut then .ok (s1, c1, j + 1) else .error (3, pl C.L j)) ∧ PS C w2 j c1 ins 0 ∧ SUx k B sb w2 s1 ∧ Fr B [C.rb, sb] w w2) C.L.length ?_ ?_ ?_ ?_
  · intro hn e w' ht
    rw [hRES, if_neg hn]
    exact ht.x (Fr.refl _ _ _) hE.hB (by simp)
  · intro ho w1 hp1 hf1
    refine ⟨s, c, i + 1, by rw [hRES, if_pos ho], by omega, ⟨by have := hb.e; omega, by have := hb.d; omega, by have := hb.l; omega, by have := hb.y; omega, by have := hb.r; omega⟩, hp1, carS hS hf1, hf1.x hE.hB⟩
  · rintro g w1 ⟨s1, c1, j, hr1, hg, hb1, hp1, hS1, hf1⟩
    obtain ⟨g', rfl⟩ : ∃ g', g = g' + 1 := ⟨g - 1, by have := hp1.lt; omega⟩
    refine (state1_any hp1 (hE.carry hf1.size) hS1 hb1 hR hk (hx.carry hf1)).mono ?_
    rintro e w2 h2
    rcases h2.cases with ⟨f, hr2, ht⟩ | ⟨o, v, hr2, rfl, hv, hf2⟩
    · refine .inr (.inr ?_)
      obtain ⟨q, rfl, hq⟩ := ht
      refine ⟨_, rfl, ?_⟩
      rw [hr1, parts, hr2.out]
      exact ThrownX.up ⟨q, rfl, hq⟩ hf1
    · cases o with
      | none =>
        obtain ⟨rfl, hp2, hS2⟩ := hv
        exact .inr (.inl ⟨rfl, s1, c1, j, by rw [hr1, parts, hr2.out], hp2, hS2, hf1.trans hf2⟩)
      | some x =>
        obtain ⟨s2, c2, j2⟩ := x
        obtain ⟨rfl, hlt, hb2, hp2, hS2⟩ := hv
        exact .inl ⟨rfl, g', by omega, s2, c2, j2, by rw [hr1, parts, hr2.out], by omega, hb2, hp2, hS2, hf1.trans hf2⟩
  · rintro w2 ⟨s1, c1, j, hr1, hp1, hS1, hf1⟩
    refine ⟨j, c1, hp1, fun hn e w3 ht => ?_, fun ho w3 hp3 hf3 => ?_⟩
    · rw [hr1, if_neg hn]
      exact ht.x hf1 (Nat.le_trans hE.hB hf1.size) (by simp)
    · rw [hr1, if_pos ho]
      exact ⟨_, rfl, ⟨rfl, hp3, carS hS1 hf3⟩, hf1.trans (hf3.x (Nat.le_trans hE.hB hf1.size))⟩

/-- nothing has been read of a state but its name -/
theorem SU.start {k B sb : Nat} {w : World} {nm : Str} {fi la : Bool} (h : w.heap[sb]? = some (.cells (stA nm fi la (.slice none 0 0) (.slice none 0 0) (.slice none 0 0) (.pointer none) (.slice none 0 0) (.slice none 0 0)) 169 (0, 0))) :
    SU k B sb w ⟨nm, fi, la, [], [], [], .nil, [], []⟩ (.slice none 0 0) (.slice none 0 0) (.slice none 0 0) (.pointer none) (.slice none 0 0) (.slice none 0 0) [] [] [] [] [] := by
  refine ⟨h, ⟨fun x hx => ?_, ?_, fun x hx => ?_⟩⟩
  · simp only [stSlots, List.mem_cons, List.not_mem_nil, or_false] at hx
    rcases hx with rfl | rfl | rfl | rfl | rfl | rfl <;> exact World.ownsRow_nil _ _ _ _
  · simp [stSlots, sSet, sExp, sWay, sReg, Value.ownBlock]
  · simp only [stSlots, List.mem_cons, List.not_mem_nil, or_false] at hx
    rcases hx with rfl | rfl | rfl | rfl | rfl | rfl <;> rfl
end Go.Proofs.YtiihgnagjemikaaGreatDoor
