/- CkptCodes: the walk. -/
import Derived.Test.YtiijbklaapaheaaEC
import Derived.Test.YtiijbklaapaheaaCE
namespace Go.Proofs.Ytiijbklaapaheaa
open Go.RowKit
set_option maxRecDepth 100000

/-- The bytes of a checkpoint, none where it may not be. -/
def encL (number slot last : Int) (ds : List Int) : List Int := if faultE number slot last ds.length = 0 then ckB number slot last ds else []
theorem encL_byt {number slot last : Int} {ds : List Int} (h : Byt ds) : Byt (encL number slot last ds) := by
  unfold encL
  split
  · exact ((putL_byt _).append (bodyB_byt h)).append (lowL_byte _ _)
  · intro b hb; cases hb
theorem dec_byt {zs : List Int} (h : Byt zs) : Byt (dec zs).data := by
  unfold dec
  (repeat' split)
  · intro b hb; cases hb
  · intro b hb; cases hb
  · intro b hb; cases hb
  · intro b hb; cases hb
  · exact tb_byte _ ((tu_byte zs h).drop _)

theorem encode_any (number slot last : Int) (ao : Option Addr) (cap : Nat) (ds : List Int) (w : World) (hd : Sees w .u8 (.slice ao ds.length cap) ds) (hby : Byt ds) (hl : ds.length ≤ 9223372036854775807) :
    Calls Try.prog 8 #[.int .i64 number, .agg #[.int .i64 slot, .int .i64 last, .slice ao ds.length cap]] w fun e w' => ∃ a c, e = .returned (.tuple #[.slice a (encL number slot last ds).length c, .int .i64 (faultE number slot last ds.length)]) ∧ Sees w' .u8 (.slice a (encL number slot last ds).length c) (encL number slot last ds) ∧ Below w.heap.size w w' := by
  unfold encL
  by_cases hf : faultE number slot last ds.length = 0
  · rw [if_pos hf]
    refine (encode_ok number slot last _ ds w hd hby hf).mono ?_
    rintro e w' ⟨v, rfl, ho, hb⟩
    have hs := (sees_of_own ho).2
    obtain ⟨a, c, rfl⟩ := own_shape ho
    exact ⟨_, _, by rw [hf], hs, hb⟩
  · rw [if_neg hf]
    refine (encode_err number slot last ao ds.length cap w hl hf).mono ?_
    rintro e w' ⟨rfl, hb⟩
    exact ⟨_, _, rfl, Sees.nil _ _, hb⟩
theorem rencode_all (number slot last : Int) (ao : Option Addr) (cap : Nat) (ds : List Int) (w : World) (hd : Sees w .u8 (.slice ao ds.length cap) ds) (hby : Byt ds) (hl : ds.length ≤ 9223372036854775807) :
    Calls Try.prog 9 #[.int .i64 number, .agg #[.int .i64 slot, .int .i64 last, .slice ao ds.length cap]] w fun e w' => ∃ a c, e = .returned (.tuple #[.slice a (encL number slot last ds).length c, .int .i64 (faultE number slot last ds.length)]) ∧ Sees w' .u8 (.slice a (encL number slot last ds).length c) (encL number slot last ds) ∧ Below w.heap.size w w' := by
  unfold encL
  by_cases hf : faultE number slot last ds.length = 0
  · rw [if_pos hf]
    refine (rencode_ok number slot last _ ds w hd hby hf).mono ?_
    rintro e w' ⟨v, rfl, ho, hb⟩
    have hs := (sees_of_own ho).2
    obtain ⟨a, c, rfl⟩ := own_shape ho
    exact ⟨_, _, by rw [hf], hs, hb⟩
  · rw [if_neg hf]
    refine (rencode_err number slot last ao ds.length cap w hl hf).mono ?_
    rintro e w' ⟨rfl, hb⟩
    exact ⟨_, _, rfl, Sees.nil _ _, hb⟩

theorem same_true (s l : Int) (a b : Option Addr) (n ca cb : Nat) (xs : List Int) (w : World) (_hn : n = xs.length) (ha : Sees w .u8 (.slice a n ca) xs) (hb : Sees w .u8 (.slice b n cb) xs) (hx : Byt xs) :
    Calls Try.prog 14 #[.agg #[.int .i64 s, .int .i64 l, .slice a n ca], .agg #[.int .i64 s, .int .i64 l, .slice b n cb]] w fun e w' => e = .returned (.bool true) ∧ Below w.heap.size w w' :=
  (same_any s l s l _ _ xs xs w ha hb hx hx).mono fun e w' h => ⟨by simpa using h.1, h.2⟩
theorem equal_true (av bv : Value) (xs : List Int) (w : World) (ha : Sees w .u8 av xs) (hb : Sees w .u8 bv xs) (hx : Byt xs) :
    Calls Try.prog 13 #[av, bv] w fun e w' => e = .returned (.bool true) ∧ w = w' :=
  (equal_any av bv xs xs w ha hb hx hx).mono fun e w' h => ⟨by simpa using h.1, h.2⟩

set_option maxHeartbeats 3200000 in
theorem codes_walk (number slot last f n : Int) (ao : Option Addr) (cap : Nat) (bv : Value) (ds zs : List Int) (w : World) (hd : Sees w .u8 (.slice ao ds.length cap) ds) (hdb : Byt ds) (hdl : ds.length ≤ 9223372036854775807)
    (hb : Sees w .u8 bv zs) (hzb : Byt zs) (hzl : zs.length ≤ 9223372036854775807) (HBG : ∀ w : World, Calls Try.prog 12 #[] w fun e w' => e = .returned (.bool true) ∧ Below w.heap.size w w') :
    Calls Try.prog 3 #[.int .i64 number, .agg #[.int .i64 slot, .int .i64 last, .slice ao ds.length cap], bv, .agg #[.int .i64 f, .int .i64 n]] w fun e w' => e = .returned (.bool true) ∧ Below w.heap.size w w' := by
  obtain ⟨B, hB⟩ : ∃ B, (w.alloc (.cells #[.int .i64 slot, .int .i64 last, .slice ao ds.length cap] 24)).alloc (.cells #[.int .i64 f, .int .i64 n] 26) = B := ⟨_, rfl⟩
  have HBB : Hid (Below w.heap.size w B) := hB ▸ ((Below.refl _ _).alloc (Nat.le_refl _) _).alloc (by simp) _
  have HSZ : Hid (B.heap.size = w.heap.size + 2) := by show _ = _; rw [← hB]; simp
  have HBX : Hid (∀ x, Below B.heap.size B x → (x.cell? ⟨w.heap.size, 0, none⟩ = some (.int .i64 slot) ∧ x.cell? ⟨w.heap.size, 1, none⟩ = some (.int .i64 last) ∧ x.cell? ⟨w.heap.size, 2, none⟩ = some (.slice ao ds.length cap)) ∧ x.cell? ⟨w.heap.size + 1, 0, none⟩ = some (.int .i64 f) ∧ x.cell? ⟨w.heap.size + 1, 1, none⟩ = some (.int .i64 n)) := fun x hx => by
    have hs := unhide HSZ
    have c : ∀ b o, b < w.heap.size + 2 → x.cell? ⟨b, o, none⟩ = B.cell? ⟨b, o, none⟩ := fun b o hb => hx.cell (p := ⟨b, o, none⟩) (by show b < _; omega)
    refine ⟨⟨?_, ?_, ?_⟩, ?_, ?_⟩
    · rw [c _ _ (by omega), ← hB]; simp [go_sem, World.cell?_alloc_old]
    · rw [c _ _ (by omega), ← hB]; simp [go_sem, World.cell?_alloc_old]
    · rw [c _ _ (by omega), ← hB]; simp [go_sem, World.cell?_alloc_old]
    · rw [c _ _ (by omega), ← hB]; simp [go_sem]
    · rw [c _ _ (by omega), ← hB]; simp [go_sem]
  have HBG := hide HBG
  have HE8 : Hid (∀ x : World, Below w.heap.size w x → _) := fun x hx => encode_any number slot last ao cap ds x (hd.below hx) hdb (by omega)
  have HE9 : Hid (∀ x : World, Below w.heap.size w x → _) := fun x hx => rencode_all number slot last ao cap ds x (hd.below hx) hdb (by omega)
  have HD1 : Hid (∀ x : World, Below w.heap.size w x → _) := fun x hx => decode_any bv zs x (hb.below hx) hzb (by omega)
  have HD2 : Hid (∀ x : World, Below w.heap.size w x → _) := fun x hx => rdecode_any bv zs x (hb.below hx) hzb (by omega)
  have HLB := hide (encL_byt (number := number) (slot := slot) (last := last) hdb)
  have HCB := hide (dec_byt hzb)
  generalize encL number slot last ds = L at HE8 HE9 HLB
  generalize faultE number slot last ds.length = fe at HE8 HE9
  generalize dec zs = c at HD1 HD2 HCB
  obtain ⟨bo, bc, rfl, _⟩ := id hb
  clear hd hb
  obtain ⟨⟨q0, q1, q2⟩, q3, q4⟩ := unhide HBX B (Below.refl _ _)
  go_enter Try.func3, Try.ntmps3
  go_wp2_with (first | rw [hB] | fail)
  refine (unhide HE8 B (unhide HBB)).mono ?_
  rintro e w1 ⟨a1, c1, rfl, s1, b1⟩
  have HS1 := hide s1
  have HB1 := hide b1
  have HF1 := hide ((unhide HBB).trans (b1.mono (unhide HBB).size))
  clear s1 b1 q0 q1 q2 q3 q4
  obtain ⟨⟨q0, q1, q2⟩, q3, q4⟩ := unhide HBX w1 (unhide HB1)
  go_wp2_with fail
  refine (unhide HE9 w1 (unhide HF1)).mono ?_
  rintro e w2 ⟨a2, c2, rfl, s2, b2⟩
  have HS2 := hide s2
  have HS12 := hide ((unhide HS1).below b2)
  have HB2 := hide ((unhide HB1).trans (b2.mono (unhide HB1).size))
  have HF2 := hide ((unhide HF1).trans (b2.mono (unhide HF1).size))
  clear s2 b2 q0 q1 q2 q3 q4 HS1
  go_wp2_with fail
  refine (unhide HD1 w2 (unhide HF2)).mono ?_
  rintro e w3 ⟨v3, rfl, o3, b3⟩
  have s3 := (sees_of_own o3).2
  obtain ⟨a3, c3, rfl⟩ := own_shape o3
  obtain ⟨W3, hW3⟩ : ∃ W3, w3.alloc (.cells #[.int .i64 c.slot, .int .i64 c.last, .slice a3 c.data.length c3] 24) = W3 := ⟨_, rfl⟩
  have bW3 : Below w3.heap.size w3 W3 := hW3 ▸ (Below.refl _ _).alloc (Nat.le_refl _) _
  have hsW3 : W3.heap.size = w3.heap.size + 1 := by rw [← hW3]; simp
  have HX3 : Hid (∀ x, Below W3.heap.size W3 x → x.cell? ⟨w3.heap.size, 0, none⟩ = some (.int .i64 c.slot) ∧ x.cell? ⟨w3.heap.size, 1, none⟩ = some (.int .i64 c.last) ∧ x.cell? ⟨w3.heap.size, 2, none⟩ = some (.slice a3 c.data.length c3)) := fun x hx => box3 (by rw [hW3, ← hsW3]; exact hx)
  have b2W : Below w2.heap.size w2 W3 := b3.trans (bW3.mono b3.size)
  have HA3 := hide ((unhide HS12).below b2W)
  have HC3 := hide ((unhide HS2).below b2W)
  have HS3 := hide (s3.below bW3)
  have HB3 := hide ((unhide HB2).trans (b2W.mono (unhide HB2).size))
  have HF3 := hide ((unhide HF2).trans (b2W.mono (unhide HF2).size))
  clear s3 b3 o3 bW3 hsW3 b2W HS12 HS2
  go_wp2_with (first | rw [hW3] | fail)
  refine (unhide HD2 W3 (unhide HF3)).mono ?_
  rintro e w4 ⟨v4, rfl, s4, b4⟩
  have HS4 := hide s4
  obtain ⟨a4, c4, rfl, _⟩ := s4
  obtain ⟨W4, hW4⟩ : ∃ W4, w4.alloc (.cells #[.int .i64 c.num, .int .i64 c.slot, .int .i64 c.last, .slice a4 c.data.length c4] 33) = W4 := ⟨_, rfl⟩
  have bW4 : Below w4.heap.size w4 W4 := hW4 ▸ (Below.refl _ _).alloc (Nat.le_refl _) _
  have hsW4 : W4.heap.size = w4.heap.size + 1 := by rw [← hW4]; simp
  have b34 : Below W3.heap.size W3 W4 := b4.trans (bW4.mono b4.size)
  have HB4 := hide ((unhide HB3).trans (b34.mono (unhide HB3).size))
  have HF4 := hide ((unhide HF3).trans (b34.mono (unhide HF3).size))
  have HX : Hid (∀ x, Below W4.heap.size W4 x → (x.cell? ⟨w3.heap.size, 0, none⟩ = some (.int .i64 c.slot) ∧ x.cell? ⟨w3.heap.size, 1, none⟩ = some (.int .i64 c.last) ∧ x.cell? ⟨w3.heap.size, 2, none⟩ = some (.slice a3 c.data.length c3)) ∧ (x.cell? ⟨w4.heap.size, 0, none⟩ = some (.int .i64 c.num) ∧ x.cell? ⟨w4.heap.size, 1, none⟩ = some (.int .i64 c.slot) ∧ x.cell? ⟨w4.heap.size, 2, none⟩ = some (.int .i64 c.last) ∧ x.cell? ⟨w4.heap.size, 3, none⟩ = some (.slice a4 c.data.length c4)) ∧ x.cell? ⟨w.heap.size + 1, 0, none⟩ = some (.int .i64 f) ∧ x.cell? ⟨w.heap.size + 1, 1, none⟩ = some (.int .i64 n)) := fun x hx => by
    obtain ⟨r0, r1, r2, r3, _⟩ := box4f (w := w4) (w1 := x) (by rw [hW4, ← hsW4]; exact hx)
    exact ⟨unhide HX3 x (b34.trans (hx.mono b34.size)), ⟨r0, r1, r2, r3⟩, (unhide HBX x ((unhide HB4).trans (hx.mono (unhide HB4).size))).2⟩
  have HEQ : Hid (∀ x, Below W4.heap.size W4 x → _) := fun x hx => equal_true (.slice a1 L.length c1) (.slice a2 L.length c2) L x ((unhide HA3).below (b34.trans (hx.mono b34.size))) ((unhide HC3).below (b34.trans (hx.mono b34.size))) (unhide HLB)
  have HSM : Hid (∀ x, Below W4.heap.size W4 x → _) := fun x hx => same_true c.slot c.last a3 a4 c.data.length c3 c4 c.data x rfl ((unhide HS3).below (b34.trans (hx.mono b34.size))) (((unhide HS4).below bW4).below hx) (unhide HCB)
  clear b4 bW4 hsW4 b34
  go_wp2_with (first | rw [hW4] | fail)
  refine wp_region_held_drew (S := fun x => (x.cell? ⟨w3.heap.size, 0, none⟩ = some (.int .i64 c.slot) ∧ x.cell? ⟨w3.heap.size, 1, none⟩ = some (.int .i64 c.last) ∧ x.cell? ⟨w3.heap.size, 2, none⟩ = some (.slice a3 c.data.length c3)) ∧ (x.cell? ⟨w4.heap.size, 0, none⟩ = some (.int .i64 c.num) ∧ x.cell? ⟨w4.heap.size, 1, none⟩ = some (.int .i64 c.slot) ∧ x.cell? ⟨w4.heap.size, 2, none⟩ = some (.int .i64 c.last) ∧ x.cell? ⟨w4.heap.size, 3, none⟩ = some (.slice a4 c.data.length c4)) ∧ x.cell? ⟨w.heap.size + 1, 0, none⟩ = some (.int .i64 f) ∧ x.cell? ⟨w.heap.size + 1, 1, none⟩ = some (.int .i64 n)) (by kernel_rfl) (unhide HX _ (Below.refl _ _).drew) (fun hHeld => ?_)
  refine wpAnyH_ready (rs := [0]) (by kernel_rfl) (by simp) ?_
  refine AllReadyH.cons rfl (fun K hK => ?_) AllReadyH.nil
  go_simp
  refine (unhide HBG _).mono ?_
  rintro e w5 ⟨rfl, hb5⟩
  refine hK _ _ (unhide HX w5 ((Below.refl _ _).drew.trans hb5)) ?_
  clear hK hHeld
  have HB5 : Hid (Below W4.heap.size W4 w5) := (Below.refl _ _).drew.trans hb5
  clear hb5
  intro hHeld
  refine wpAnyH_take (i := 1) (v := ?v1x1) rfl (by kernel_rfl) (by kernel_rfl) (by kernel_rfl) (fun _ _ _ h => h) (Or.inl ⟨by rfl, ?hy1x1⟩) (by assumption) ?rest1x1
  case hy1x1 => intro w hSw; obtain ⟨⟨s0,s1,s2⟩, ⟨r0,r1,r2,r3⟩, p0, p1⟩ := hSw; go_simp <;> with_reducible rfl
  simp only [Act.put, List.getElem_toArray, List.getElem_cons_zero, List.getElem_cons_succ, List.setIfInBounds_toArray, List.set_cons_zero, List.set_cons_succ]
  refine wpAnyH_take (i := 2) (v := ?v2x2) rfl (by kernel_rfl) (by kernel_rfl) (by kernel_rfl) (fun _ _ _ h => h) (Or.inl ⟨by rfl, ?hy2x2⟩) (by assumption) ?rest2x2
  case hy2x2 => intro w hSw; obtain ⟨⟨s0,s1,s2⟩, ⟨r0,r1,r2,r3⟩, p0, p1⟩ := hSw; go_simp <;> with_reducible rfl
  simp only [Act.put, List.getElem_toArray, List.getElem_cons_zero, List.getElem_cons_succ, List.setIfInBounds_toArray, List.set_cons_zero, List.set_cons_succ]
  refine wpAnyH_take (i := 3) (v := ?v3x3) rfl (by kernel_rfl) (by kernel_rfl) (by kernel_rfl) (fun _ _ _ h => h) (Or.inl ⟨by rfl, ?hy3x3⟩) (by assumption) ?rest3x3
  case hy3x3 => intro w hSw; obtain ⟨⟨s0,s1,s2⟩, ⟨r0,r1,r2,r3⟩, p0, p1⟩ := hSw; go_simp <;> with_reducible rfl
  simp only [Act.put, List.getElem_toArray, List.getElem_cons_zero, List.getElem_cons_succ, List.setIfInBounds_toArray, List.set_cons_zero, List.set_cons_succ]
  refine wpAnyH_ready (rs := [4]) (by kernel_rfl) (by simp) ?_
  refine AllReadyH.cons rfl (fun K hK => ?_) AllReadyH.nil
  go_simp
  refine (unhide HEQ w5 (unhide HB5)).mono ?_
  rintro e wz ⟨rfl, rfl⟩
  refine hK _ _ (unhide HX w5 (unhide HB5)) ?_
  clear hK hHeld
  intro hHeld
  refine wpAnyH_take (i := 5) (v := ?v4x5) rfl (by kernel_rfl) (by kernel_rfl) (by kernel_rfl) (fun _ _ _ h => h) (Or.inl ⟨by rfl, ?hy4x5⟩) (by assumption) ?rest4x5
  case hy4x5 => intro w hSw; obtain ⟨⟨s0,s1,s2⟩, ⟨r0,r1,r2,r3⟩, p0, p1⟩ := hSw; go_simp <;> with_reducible rfl
  simp only [Act.put, List.getElem_toArray, List.getElem_cons_zero, List.getElem_cons_succ, List.setIfInBounds_toArray, List.set_cons_zero, List.set_cons_succ]
  refine wpAnyH_take (i := 6) (v := ?v5x6) rfl (by kernel_rfl) (by kernel_rfl) (by kernel_rfl) (fun _ _ _ h => h) (Or.inl ⟨by rfl, ?hy5x6⟩) (by assumption) ?rest5x6
  case hy5x6 => intro w hSw; obtain ⟨⟨s0,s1,s2⟩, ⟨r0,r1,r2,r3⟩, p0, p1⟩ := hSw; go_simp <;> with_reducible rfl
  simp only [Act.put, List.getElem_toArray, List.getElem_cons_zero, List.getElem_cons_succ, List.setIfInBounds_toArray, List.set_cons_zero, List.set_cons_succ]
  refine wpAnyH_take (i := 7) (v := ?v6x7) rfl (by kernel_rfl) (by kernel_rfl) (by kernel_rfl) (fun _ _ _ h => h) (Or.inl ⟨by rfl, ?hy6x7⟩) (by assumption) ?rest6x7
  case hy6x7 => intro w hSw; obtain ⟨⟨s0,s1,s2⟩, ⟨r0,r1,r2,r3⟩, p0, p1⟩ := hSw; go_simp <;> with_reducible rfl
  simp only [Act.put, List.getElem_toArray, List.getElem_cons_zero, List.getElem_cons_succ, List.setIfInBounds_toArray, List.set_cons_zero, List.set_cons_succ]
  refine wpAnyH_take (i := 8) (v := ?v7x8) rfl (by kernel_rfl) (by kernel_rfl) (by kernel_rfl) (fun _ _ _ h => h) (Or.inl ⟨by rfl, ?hy7x8⟩) (by assumption) ?rest7x8
  case hy7x8 => intro w hSw; obtain ⟨⟨s0,s1,s2⟩, ⟨r0,r1,r2,r3⟩, p0, p1⟩ := hSw; go_simp <;> with_reducible rfl
  simp only [Act.put, List.getElem_toArray, List.getElem_cons_zero, List.getElem_cons_succ, List.setIfInBounds_toArray, List.set_cons_zero, List.set_cons_succ]
  refine wpAnyH_take (i := 9) (v := (.bool true)) rfl (by kernel_rfl) (by kernel_rfl) (by kernel_rfl) (fun _ _ _ h => h) (Or.inl ⟨by rfl, ?hy8x9⟩) (by assumption) ?rest8x9
  case hy8x9 => intro w hSw; obtain ⟨⟨s0,s1,s2⟩, ⟨r0,r1,r2,r3⟩, p0, p1⟩ := hSw; go_simp <;> with_reducible rfl
  simp only [Act.put, List.getElem_toArray, List.getElem_cons_zero, List.getElem_cons_succ, List.setIfInBounds_toArray, List.set_cons_zero, List.set_cons_succ]
  refine wpAnyH_take (i := 10) (v := ?v9x10) rfl (by kernel_rfl) (by kernel_rfl) (by kernel_rfl) (fun _ _ _ h => h) (Or.inl ⟨by rfl, ?hy9x10⟩) (by assumption) ?rest9x10
  case hy9x10 => intro w hSw; obtain ⟨⟨s0,s1,s2⟩, ⟨r0,r1,r2,r3⟩, p0, p1⟩ := hSw; go_simp <;> with_reducible rfl
  simp only [Act.put, List.getElem_toArray, List.getElem_cons_zero, List.getElem_cons_succ, List.setIfInBounds_toArray, List.set_cons_zero, List.set_cons_succ]
  refine wpAnyH_take (i := 11) (v := ?v10x11) rfl (by kernel_rfl) (by kernel_rfl) (by kernel_rfl) (fun _ _ _ h => h) (Or.inl ⟨by rfl, ?hy10x11⟩) (by assumption) ?rest10x11
  case hy10x11 => intro w hSw; obtain ⟨⟨s0,s1,s2⟩, ⟨r0,r1,r2,r3⟩, p0, p1⟩ := hSw; go_simp <;> with_reducible rfl
  simp only [Act.put, List.getElem_toArray, List.getElem_cons_zero, List.getElem_cons_succ, List.setIfInBounds_toArray, List.set_cons_zero, List.set_cons_succ]
  refine wpAnyH_take (i := 12) (v := ?v11x12) rfl (by kernel_rfl) (by kernel_rfl) (by kernel_rfl) (fun _ _ _ h => h) (Or.inl ⟨by rfl, ?hy11x12⟩) (by assumption) ?rest11x12
  case hy11x12 => intro w hSw; obtain ⟨⟨s0,s1,s2⟩, ⟨r0,r1,r2,r3⟩, p0, p1⟩ := hSw; go_simp <;> with_reducible rfl
  simp only [Act.put, List.getElem_toArray, List.getElem_cons_zero, List.getElem_cons_succ, List.setIfInBounds_toArray, List.set_cons_zero, List.set_cons_succ]
  refine wpAnyH_take (i := 13) (v := ?v12x13) rfl (by kernel_rfl) (by kernel_rfl) (by kernel_rfl) (fun _ _ _ h => h) (Or.inl ⟨by rfl, ?hy12x13⟩) (by assumption) ?rest12x13
  case hy12x13 => intro w hSw; obtain ⟨⟨s0,s1,s2⟩, ⟨r0,r1,r2,r3⟩, p0, p1⟩ := hSw; go_simp <;> with_reducible rfl
  simp only [Act.put, List.getElem_toArray, List.getElem_cons_zero, List.getElem_cons_succ, List.setIfInBounds_toArray, List.set_cons_zero, List.set_cons_succ]
  refine wpAnyH_take (i := 14) (v := (.int .i64 c.num)) rfl (by kernel_rfl) (by kernel_rfl) (by kernel_rfl) (fun _ _ _ h => h) (Or.inl ⟨by rfl, ?hy13x14⟩) (by assumption) ?rest13x14
  case hy13x14 => intro w hSw; obtain ⟨⟨s0,s1,s2⟩, ⟨r0,r1,r2,r3⟩, p0, p1⟩ := hSw; go_simp <;> with_reducible rfl
  simp only [Act.put, List.getElem_toArray, List.getElem_cons_zero, List.getElem_cons_succ, List.setIfInBounds_toArray, List.set_cons_zero, List.set_cons_succ]
  refine wpAnyH_take (i := 15) (v := (.bool true)) rfl (by kernel_rfl) (by kernel_rfl) (by kernel_rfl) (fun _ _ _ h => h) (Or.inl ⟨by rfl, ?hy14x15⟩) (by assumption) ?rest14x15
  case hy14x15 => intro w hSw; obtain ⟨⟨s0,s1,s2⟩, ⟨r0,r1,r2,r3⟩, p0, p1⟩ := hSw; go_simp <;> with_reducible rfl
  simp only [Act.put, List.getElem_toArray, List.getElem_cons_zero, List.getElem_cons_succ, List.setIfInBounds_toArray, List.set_cons_zero, List.set_cons_succ]
  refine wpAnyH_take (i := 16) (v := ?v15x16) rfl (by kernel_rfl) (by kernel_rfl) (by kernel_rfl) (fun _ _ _ h => h) (Or.inl ⟨by rfl, ?hy15x16⟩) (by assumption) ?rest15x16
  case hy15x16 => intro w hSw; obtain ⟨⟨s0,s1,s2⟩, ⟨r0,r1,r2,r3⟩, p0, p1⟩ := hSw; go_simp <;> with_reducible rfl
  simp only [Act.put, List.getElem_toArray, List.getElem_cons_zero, List.getElem_cons_succ, List.setIfInBounds_toArray, List.set_cons_zero, List.set_cons_succ]
  refine wpAnyH_take (i := 17) (v := ?v16x17) rfl (by kernel_rfl) (by kernel_rfl) (by kernel_rfl) (fun _ _ _ h => h) (Or.inl ⟨by rfl, ?hy16x17⟩) (by assumption) ?rest16x17
  case hy16x17 => intro w hSw; obtain ⟨⟨s0,s1,s2⟩, ⟨r0,r1,r2,r3⟩, p0, p1⟩ := hSw; go_simp <;> with_reducible rfl
  simp only [Act.put, List.getElem_toArray, List.getElem_cons_zero, List.getElem_cons_succ, List.setIfInBounds_toArray, List.set_cons_zero, List.set_cons_succ]
  refine wpAnyH_take (i := 18) (v := (.agg #[.int .i64 c.slot, .int .i64 c.last, .slice a3 c.data.length c3])) rfl (by kernel_rfl) (by kernel_rfl) (by kernel_rfl) (fun _ _ _ h => h) (Or.inl ⟨by rfl, ?hy17x18⟩) (by assumption) ?rest17x18
  case hy17x18 => intro w hSw; obtain ⟨⟨s0,s1,s2⟩, ⟨r0,r1,r2,r3⟩, p0, p1⟩ := hSw; go_simp <;> with_reducible rfl
  simp only [Act.put, List.getElem_toArray, List.getElem_cons_zero, List.getElem_cons_succ, List.setIfInBounds_toArray, List.set_cons_zero, List.set_cons_succ]
  refine wpAnyH_take (i := 19) (v := ?v18x19) rfl (by kernel_rfl) (by kernel_rfl) (by kernel_rfl) (fun _ _ _ h => h) (Or.inl ⟨by rfl, ?hy18x19⟩) (by assumption) ?rest18x19
  case hy18x19 => intro w hSw; obtain ⟨⟨s0,s1,s2⟩, ⟨r0,r1,r2,r3⟩, p0, p1⟩ := hSw; go_simp <;> with_reducible rfl
  simp only [Act.put, List.getElem_toArray, List.getElem_cons_zero, List.getElem_cons_succ, List.setIfInBounds_toArray, List.set_cons_zero, List.set_cons_succ]
  refine wpAnyH_take (i := 20) (v := (.agg #[.int .i64 c.slot, .int .i64 c.last, .slice a4 c.data.length c4])) rfl (by kernel_rfl) (by kernel_rfl) (by kernel_rfl) (fun _ _ _ h => h) (Or.inl ⟨by rfl, ?hy19x20⟩) (by assumption) ?rest19x20
  case hy19x20 => intro w hSw; obtain ⟨⟨s0,s1,s2⟩, ⟨r0,r1,r2,r3⟩, p0, p1⟩ := hSw; go_simp <;> with_reducible rfl
  simp only [Act.put, List.getElem_toArray, List.getElem_cons_zero, List.getElem_cons_succ, List.setIfInBounds_toArray, List.set_cons_zero, List.set_cons_succ]
  refine wpAnyH_ready (rs := [21]) (by kernel_rfl) (by simp) ?_
  refine AllReadyH.cons rfl (fun K hK => ?_) AllReadyH.nil
  go_simp
  refine (unhide HSM w5 (unhide HB5)).mono ?_
  rintro e w6 ⟨rfl, hb6⟩
  refine hK _ _ (unhide HX w6 ((unhide HB5).trans (hb6.mono (unhide HB5).size))) ?_
  clear hK hHeld
  have HB6 : Hid (Below W4.heap.size W4 w6) := (unhide HB5).trans (hb6.mono (unhide HB5).size)
  clear hb6
  intro hHeld
  refine wpAnyH_take (i := 22) (v := ?v20x22) rfl (by kernel_rfl) (by kernel_rfl) (by kernel_rfl) (fun _ _ _ h => h) (Or.inl ⟨by rfl, ?hy20x22⟩) (by assumption) ?rest20x22
  case hy20x22 => intro w hSw; obtain ⟨⟨s0,s1,s2⟩, ⟨r0,r1,r2,r3⟩, p0, p1⟩ := hSw; go_simp <;> with_reducible rfl
  simp only [Act.put, List.getElem_toArray, List.getElem_cons_zero, List.getElem_cons_succ, List.setIfInBounds_toArray, List.set_cons_zero, List.set_cons_succ]
  refine wpAnyH_take (i := 23) (v := ?v21x23) rfl (by kernel_rfl) (by kernel_rfl) (by kernel_rfl) (fun _ _ _ h => h) (Or.inl ⟨by rfl, ?hy21x23⟩) (by assumption) ?rest21x23
  case hy21x23 => intro w hSw; obtain ⟨⟨s0,s1,s2⟩, ⟨r0,r1,r2,r3⟩, p0, p1⟩ := hSw; go_simp <;> with_reducible rfl
  simp only [Act.put, List.getElem_toArray, List.getElem_cons_zero, List.getElem_cons_succ, List.setIfInBounds_toArray, List.set_cons_zero, List.set_cons_succ]
  refine wpAnyH_take (i := 24) (v := ?v22x24) rfl (by kernel_rfl) (by kernel_rfl) (by kernel_rfl) (fun _ _ _ h => h) (Or.inl ⟨by rfl, ?hy22x24⟩) (by assumption) ?rest22x24
  case hy22x24 => intro w hSw; obtain ⟨⟨s0,s1,s2⟩, ⟨r0,r1,r2,r3⟩, p0, p1⟩ := hSw; go_simp <;> with_reducible rfl
  simp only [Act.put, List.getElem_toArray, List.getElem_cons_zero, List.getElem_cons_succ, List.setIfInBounds_toArray, List.set_cons_zero, List.set_cons_succ]
  refine wpAnyH_take (i := 25) (v := ?v23x25) rfl (by kernel_rfl) (by kernel_rfl) (by kernel_rfl) (fun _ _ _ h => h) (Or.inl ⟨by rfl, ?hy23x25⟩) (by assumption) ?rest23x25
  case hy23x25 => intro w hSw; obtain ⟨⟨s0,s1,s2⟩, ⟨r0,r1,r2,r3⟩, p0, p1⟩ := hSw; go_simp <;> with_reducible rfl
  simp only [Act.put, List.getElem_toArray, List.getElem_cons_zero, List.getElem_cons_succ, List.setIfInBounds_toArray, List.set_cons_zero, List.set_cons_succ]
  refine wpAnyH_take (i := 26) (v := (.bool true)) rfl (by kernel_rfl) (by kernel_rfl) (by kernel_rfl) (fun _ _ _ h => h) (Or.inl ⟨by rfl, ?hy24x26⟩) (by assumption) ?rest24x26
  case hy24x26 => intro w hSw; obtain ⟨⟨s0,s1,s2⟩, ⟨r0,r1,r2,r3⟩, p0, p1⟩ := hSw; go_simp <;> with_reducible rfl
  simp only [Act.put, List.getElem_toArray, List.getElem_cons_zero, List.getElem_cons_succ, List.setIfInBounds_toArray, List.set_cons_zero, List.set_cons_succ]
  refine wpAnyH_take (i := 27) (v := ?v25x27) rfl (by kernel_rfl) (by kernel_rfl) (by kernel_rfl) (fun _ _ _ h => h) (Or.inl ⟨by rfl, ?hy25x27⟩) (by assumption) ?rest25x27
  case hy25x27 => intro w hSw; obtain ⟨⟨s0,s1,s2⟩, ⟨r0,r1,r2,r3⟩, p0, p1⟩ := hSw; go_simp <;> with_reducible rfl
  simp only [Act.put, List.getElem_toArray, List.getElem_cons_zero, List.getElem_cons_succ, List.setIfInBounds_toArray, List.set_cons_zero, List.set_cons_succ]
  refine wpAnyH_take (i := 28) (v := ?v26x28) rfl (by kernel_rfl) (by kernel_rfl) (by kernel_rfl) (fun _ _ _ h => h) (Or.inl ⟨by rfl, ?hy26x28⟩) (by assumption) ?rest26x28
  case hy26x28 => intro w hSw; obtain ⟨⟨s0,s1,s2⟩, ⟨r0,r1,r2,r3⟩, p0, p1⟩ := hSw; go_simp <;> with_reducible rfl
  simp only [Act.put, List.getElem_toArray, List.getElem_cons_zero, List.getElem_cons_succ, List.setIfInBounds_toArray, List.set_cons_zero, List.set_cons_succ]
  refine wpAnyH_take (i := 29) (v := (.agg #[.int .i64 f, .int .i64 n])) rfl (by kernel_rfl) (by kernel_rfl) (by kernel_rfl) (fun _ _ _ h => h) (Or.inl ⟨by rfl, ?hy27x29⟩) (by assumption) ?rest27x29
  case hy27x29 => intro w hSw; obtain ⟨⟨s0,s1,s2⟩, ⟨r0,r1,r2,r3⟩, p0, p1⟩ := hSw; go_simp <;> with_reducible rfl
  simp only [Act.put, List.getElem_toArray, List.getElem_cons_zero, List.getElem_cons_succ, List.setIfInBounds_toArray, List.set_cons_zero, List.set_cons_succ]
  refine wpAnyH_take (i := 31) (v := (.agg #[.int .i64 f, .int .i64 n])) rfl (by kernel_rfl) (by kernel_rfl) (by kernel_rfl) (fun _ _ _ h => h) (Or.inl ⟨by rfl, ?hy28x31⟩) (by assumption) ?rest28x31
  case hy28x31 => intro w hSw; obtain ⟨⟨s0,s1,s2⟩, ⟨r0,r1,r2,r3⟩, p0, p1⟩ := hSw; go_simp <;> with_reducible rfl
  simp only [Act.put, List.getElem_toArray, List.getElem_cons_zero, List.getElem_cons_succ, List.setIfInBounds_toArray, List.set_cons_zero, List.set_cons_succ]
  refine wpAnyH_ready (rs := [30]) (by kernel_rfl) (by simp) ?_
  refine AllReadyH.cons rfl (fun K hK => ?_) AllReadyH.nil
  go_simp
  refine (most_any f n w6).mono ?_
  rintro e w7 ⟨rfl, hb7⟩
  refine hK _ _ (unhide HX w7 ((unhide HB6).trans (hb7.mono (unhide HB6).size))) ?_
  clear hK hHeld
  have HB7 : Hid (Below W4.heap.size W4 w7) := (unhide HB6).trans (hb7.mono (unhide HB6).size)
  clear hb7
  intro hHeld
  refine wpAnyH_ready (rs := [32]) (by kernel_rfl) (by simp) ?_
  refine AllReadyH.cons rfl (fun K hK => ?_) AllReadyH.nil
  go_simp
  refine (rmost_any f n w7).mono ?_
  rintro e w8 ⟨rfl, hb8⟩
  refine hK _ _ (unhide HX w8 ((unhide HB7).trans (hb8.mono (unhide HB7).size))) ?_
  clear hK hHeld
  have HB8 : Hid (Below W4.heap.size W4 w8) := (unhide HB7).trans (hb8.mono (unhide HB7).size)
  clear hb8
  intro hHeld
  refine wpAnyH_take (i := 33) (v := (.bool true)) rfl (by kernel_rfl) (by kernel_rfl) (by kernel_rfl) (fun _ _ _ h => h) (Or.inl ⟨by rfl, ?hy29x33⟩) (by assumption) ?rest29x33
  case hy29x33 => intro w hSw; obtain ⟨⟨s0,s1,s2⟩, ⟨r0,r1,r2,r3⟩, p0, p1⟩ := hSw; go_simp <;> with_reducible rfl
  simp only [Act.put, List.getElem_toArray, List.getElem_cons_zero, List.getElem_cons_succ, List.setIfInBounds_toArray, List.set_cons_zero, List.set_cons_succ]
  refine wpAnyH_take (i := 34) (v := ?v30x34) rfl (by kernel_rfl) (by kernel_rfl) (by kernel_rfl) (fun _ _ _ h => h) (Or.inl ⟨by rfl, ?hy30x34⟩) (by assumption) ?rest30x34
  case hy30x34 => intro w hSw; obtain ⟨⟨s0,s1,s2⟩, ⟨r0,r1,r2,r3⟩, p0, p1⟩ := hSw; go_simp <;> with_reducible rfl
  simp only [Act.put, List.getElem_toArray, List.getElem_cons_zero, List.getElem_cons_succ, List.setIfInBounds_toArray, List.set_cons_zero, List.set_cons_succ]
  refine wpAnyH_take (i := 35) (v := ?v31x35) rfl (by kernel_rfl) (by kernel_rfl) (by kernel_rfl) (fun _ _ _ h => h) (Or.inl ⟨by rfl, ?hy31x35⟩) (by assumption) ?rest31x35
  case hy31x35 => intro w hSw; obtain ⟨⟨s0,s1,s2⟩, ⟨r0,r1,r2,r3⟩, p0, p1⟩ := hSw; go_simp <;> with_reducible rfl
  simp only [Act.put, List.getElem_toArray, List.getElem_cons_zero, List.getElem_cons_succ, List.setIfInBounds_toArray, List.set_cons_zero, List.set_cons_succ]
  refine wpAnyH_done (by kernel_rfl) ?_ _
  have HF8 := hide ((unhide HF4).trans ((unhide HB8).mono (unhide HF4).size))
  go_wp2
  go_ret
  exact ⟨rfl, unhide HF8⟩

end Go.Proofs.Ytiijbklaapaheaa
