/- Several texts as one. -/
import Derived.Test.YtiijbklaapaheaaGreatKZ28

/- CkptDoes: what is loaded; any step. -/
namespace Go.Proofs.YtiijbklaapaheaaGreat
open Go.RowKit
set_option maxRecDepth 100000
variable {w : World} {S : Nat → Prop} {B g h cap hr gp gw cp cw : Nat} {F : Fl}

theorem lodB_byt (F : Fl) (f n : Int) : Byt (lodB F f n).ck.data := by
  unfold lodB
  split
  · intro b hb; cases hb
  · exact nwk_data _ _ _

set_option maxHeartbeats 3200000 in
theorem st_load (J : Jt w B g h cap hr gp gw cp cw S F) (hB : B ≤ w.heap.size) (f n slot last x6 x7 x8 : Int) (ao : Option Addr) (dc : Nat) (ds : List Int) (hf : -9223372036854775808 ≤ f ∧ f ≤ 9223372036854775807) (hn : -9223372036854775808 ≤ n ∧ n ≤ 9223372036854775807) :
    Calls Tryz.prog 7 #[P0 h, P0 hr, .agg #[.int .i64 1, .int .i64 f, .int .i64 n, .int .i64 slot, .int .i64 last, .slice ao ds.length dc, .int .i64 x6, .int .i64 x7, .int .i64 x8]] w (Stp B g h cap hr gp gw cp cw S w) := by
  obtain ⟨V, hV⟩ : ∃ V, w.alloc (.cells #[.int .i64 1, .int .i64 f, .int .i64 n, .int .i64 slot, .int .i64 last, .slice ao ds.length dc, .int .i64 x6, .int .i64 x7, .int .i64 x8] 37) = V := ⟨_, rfl⟩
  have bV : Below w.heap.size w V := hV ▸ (Below.refl _ _).alloc (Nat.le_refl _) _
  have hsV : V.heap.size = w.heap.size + 1 := by rw [← hV]; simp
  have HX : Hid (∀ x : World, Below V.heap.size V x → x.cell? ⟨w.heap.size, 0, none⟩ = some (.int .i64 1) ∧ x.cell? ⟨w.heap.size, 1, none⟩ = some (.int .i64 f) ∧ x.cell? ⟨w.heap.size, 2, none⟩ = some (.int .i64 n)) := fun x hx => by
    have c : ∀ o, x.cell? ⟨w.heap.size, o, none⟩ = V.cell? ⟨w.heap.size, o, none⟩ := fun o => hx.cell (p := ⟨w.heap.size, o, none⟩) (by show w.heap.size < _; omega)
    refine ⟨?_, ?_, ?_⟩ <;> (rw [c, ← hV]; simp [go_sem])
  have HF : Hid (∀ x, Below V.heap.size V x → Jt x B g h cap hr gp gw cp cw S F ∧ Below B w x) := fun x hx => ⟨(J.below bV).below hx, (bV.mono hB).trans (hx.mono (by omega))⟩
  have HL1 : Hid (∀ x, Below V.heap.size V x → _) := fun x hx => load_any (unhide HF x hx).1.fl (unhide HF x hx).1.hP f n hf.2
  have HL2 : Hid (∀ x, Below V.heap.size V x → Calls Tryz.prog 14 #[P0 hr, .agg #[.int .i64 f, .int .i64 n]] x fun e w' => ∃ dv, e = .returned (.tuple #[.agg #[.int .i64 (lodB F f n).ck.slot, .int .i64 (lodB F f n).ck.last, dv], .bool (decide (0 < (lodB F f n).ck.num)), .int .i64 (lodE F f n)]) ∧ w'.ownsRow x.heap.size 5 1 dv (lodB F f n).ck.data.length (ints .u8 (lodB F f n).ck.data) ∧ Below x.heap.size x w') := fun x hx => by
    obtain ⟨_, _, _, _, H⟩ := (unhide HF x hx).1.rf
    exact rload_any H f n hf hn
  have HH1 : Hid (∀ x, Below V.heap.size V x → _) := fun x hx => half_any (unhide HF x hx).1.fl (unhide HF x hx).1.hP f n hf.2
  have HH2 : Hid (∀ x, Below V.heap.size V x → Calls Tryz.prog 15 #[P0 hr, .agg #[.int .i64 f, .int .i64 n]] x fun e w' => e = .returned (.tuple #[.int .i64 (hafB F f n).at', .int .i64 (hafB F f n).ck.num, .bool (decide (0 < (hafB F f n).ck.num))]) ∧ Below x.heap.size x w') := fun x hx => by
    obtain ⟨_, _, _, _, H⟩ := (unhide HF x hx).1.rf
    exact rfind_any H f n hf hn
  have HCB := hide (lodB_byt F f n)
  generalize (lodB F f n).ck = c at HL1 HL2 HCB
  generalize lodE F f n = er at HL1 HL2
  generalize hafB F f n = d at HH1 HH2
  generalize decide (0 < c.num) = db at HL1 HL2
  generalize decide (0 < d.ck.num) = dd at HH1 HH2
  generalize d.ck.num = dn at HH1 HH2
  generalize d.at' = da at HH1 HH2
  clear J bV hsV
  obtain ⟨q0, q1, q2⟩ := unhide HX V (Below.refl _ _)
  go_enter Tryz.func7, Tryz.ntmps7
  go_wp2_with (first | rw [hV] | fail)
  refine (unhide HL1 V (Below.refl _ _)).mono ?_
  rintro e w3 ⟨dv, rfl, o3, b3⟩
  obtain ⟨na, nc, rfl⟩ := own_shape o3
  obtain ⟨W3, hW3⟩ : ∃ W3, w3.alloc (.cells #[.int .i64 c.slot, .int .i64 c.last, .slice na c.data.length nc] 35) = W3 := ⟨_, rfl⟩
  have bW3 : Below w3.heap.size w3 W3 := hW3 ▸ (Below.refl _ _).alloc (Nat.le_refl _) _
  have HSW3 : Hid (W3.heap.size = w3.heap.size + 1) := by show _ = _; rw [← hW3]; simp
  have HB3 : Hid (Below V.heap.size V W3) := b3.trans (bW3.mono b3.size)
  have HV3 : Hid (Sees W3 .u8 (.slice na c.data.length nc) c.data) := (sees_of_own o3).2.below bW3
  have HX3 : Hid (∀ x, Below W3.heap.size W3 x → x.cell? ⟨w3.heap.size, 0, none⟩ = some (.int .i64 c.slot) ∧ x.cell? ⟨w3.heap.size, 1, none⟩ = some (.int .i64 c.last) ∧ x.cell? ⟨w3.heap.size, 2, none⟩ = some (.slice na c.data.length nc)) := fun x hx => box3 (by rw [hW3, ← unhide HSW3]; exact hx)
  clear o3 b3 bW3 q0 q1 q2
  obtain ⟨q0, q1, q2⟩ := unhide HX W3 (unhide HB3)
  go_wp2_with (first | rw [hW3] | fail)
  refine (unhide HL2 W3 (unhide HB3)).mono ?_
  rintro e w4 ⟨dv, rfl, o4, b4⟩
  obtain ⟨ma, mc, rfl⟩ := own_shape o4
  obtain ⟨W4, hW4⟩ : ∃ W4, w4.alloc (.cells #[.int .i64 c.slot, .int .i64 c.last, .slice ma c.data.length mc] 35) = W4 := ⟨_, rfl⟩
  have bW4 : Below w4.heap.size w4 W4 := hW4 ▸ (Below.refl _ _).alloc (Nat.le_refl _) _
  have HSW4 : Hid (W4.heap.size = w4.heap.size + 1) := by show _ = _; rw [← hW4]; simp
  have b4W : Below W3.heap.size W3 W4 := b4.trans (bW4.mono b4.size)
  have HB34 := hide b4W
  have HB4 : Hid (Below V.heap.size V W4) := (unhide HB3).trans (b4W.mono (unhide HB3).size)
  have HV4 : Hid (Sees W4 .u8 (.slice ma c.data.length mc) c.data) := (sees_of_own o4).2.below bW4
  have HX4 : Hid (∀ x, Below W4.heap.size W4 x → x.cell? ⟨w4.heap.size, 0, none⟩ = some (.int .i64 c.slot) ∧ x.cell? ⟨w4.heap.size, 1, none⟩ = some (.int .i64 c.last) ∧ x.cell? ⟨w4.heap.size, 2, none⟩ = some (.slice ma c.data.length mc)) := fun x hx => box3 (by rw [hW4, ← unhide HSW4]; exact hx)
  clear o4 b4 bW4 b4W q0 q1 q2
  obtain ⟨q0, q1, q2⟩ := unhide HX W4 (unhide HB4)
  go_wp2_with (first | rw [hW4] | fail)
  refine (unhide HH1 W4 (unhide HB4)).mono ?_
  rintro e w5 ⟨rfl, b5⟩
  have HB5 : Hid (Below V.heap.size V w5) := (unhide HB4).trans (b5.mono (unhide HB4).size)
  have HB45 := hide b5
  clear b5 q0 q1 q2
  obtain ⟨q0, q1, q2⟩ := unhide HX w5 (unhide HB5)
  go_wp2_with fail
  refine (unhide HH2 w5 (unhide HB5)).mono ?_
  rintro e w6 ⟨rfl, b6⟩
  have HB6 : Hid (Below V.heap.size V w6) := (unhide HB5).trans (b6.mono (unhide HB5).size)
  have HB46 : Hid (Below W4.heap.size W4 w6) := (unhide HB45).trans (b6.mono (unhide HB45).size)
  have HB36 : Hid (Below W3.heap.size W3 w6) := (unhide HB34).trans ((unhide HB46).mono (unhide HB34).size)
  clear b6 q0 q1 q2
  obtain ⟨z0, z1, z2⟩ := unhide HX3 w6 (unhide HB36)
  obtain ⟨y0, y1, y2⟩ := unhide HX4 w6 (unhide HB46)
  have HSM := hide (same_true c.slot c.last na ma c.data.length nc mc c.data w6 rfl ((unhide HV3).below (unhide HB36)) ((unhide HV4).below (unhide HB46)) (unhide HCB))
  go_wp2_with fail
  refine (unhide HSM).mono ?_
  rintro e w7 ⟨rfl, b7⟩
  have HB7 := hide (unhide HF w7 ((unhide HB6).trans (b7.mono (unhide HB6).size)))
  clear b7
  go_wp2
  go_ret
  exact ⟨rfl, _, (unhide HB7).1, (unhide HB7).2⟩

/-- Any step. -/
theorem step_any (J : Jt w B g h cap hr gp gw cp cw S F) (hB : B ≤ w.heap.size) (o : OpV) (hok : OpOk w o) (hf : -9223372036854775808 ≤ o.f ∧ o.f ≤ 9223372036854775807) (hn : -9223372036854775808 ≤ o.n ∧ o.n ≤ 9223372036854775807) (hdB : ∀ p, o.ao = some p → p.block < B ∨ o.ds = []) :
    Calls Tryz.prog 7 #[P0 h, P0 hr, o.agg] w (Stp B g h cap hr gp gw cp cw S w) := by
  obtain ⟨x0, f, n, slot, last, x6, x7, x8, ao, dc, ds⟩ := o
  obtain ⟨hs, hb, hl⟩ := hok
  simp only at hs hb hl hf hn hdB
  simp only [OpV.agg]
  by_cases h0 : x0 = 0
  · subst h0; exact st_save J hB f n slot last x6 x7 x8 ao dc ds hs hdB hb hf hn hl
  by_cases h1 : x0 = 1
  · subst h1; exact st_load J hB f n slot last x6 x7 x8 ao dc ds hf hn
  by_cases h2 : x0 = 2
  · subst h2; exact st_fuse J hB f n slot last x6 x7 x8 ao dc ds
  by_cases h3 : x0 = 3
  · subst h3; exact st_crash J hB f n slot last x6 x7 x8 ao dc ds
  by_cases h4 : x0 = 4
  · subst h4; exact st_restart J hB f n slot last x6 x7 x8 ao dc ds
  by_cases h5 : x0 = 5
  · subst h5; exact st_erase J hB f n slot last x6 x7 x8 ao dc ds
  by_cases h6 : x0 = 6
  · subst h6; exact st_prog J hB f n slot last x6 x7 x8 ao dc ds hs hdB hb
  exact st_spoil J hB x0 f n slot last x6 x7 x8 ao dc ds (by simp [h0]) (by simp [h1]) (by simp [h2]) (by simp [h3]) (by simp [h4]) (by simp [h5]) (by simp [h6])
end Go.Proofs.YtiijbklaapaheaaGreat

/- CkptDoes: has a flash the document's pages? -/
namespace Go.Proofs.YtiijbklaapaheaaGreat
open Go.RowKit
set_option maxRecDepth 100000
variable {w : World} {S : Nat → Prop} {B g h cap hr gp gw cp cw : Nat} {F : Fl}

theorem readE_is {pb cb : Nat → Nat} {bv : Nat → Nat → Value} {kp : Int} (_H : IsRf w S hr gp gw cp cw pb cb bv F kp) (hd : F.down = false) (i j : Nat) (hi : i < F.n) (hj : j < 16) : F.readE i j = if F.st i j = 2 then 0 else if F.st i j = 1 then 22 else 21 := by
  unfold Fl.readE
  rw [if_neg (by rw [hd]; decide), if_neg (not_not_intro ⟨by omega, by omega, by omega, by omega⟩)]
  simp only [Int.toNat_natCast]

set_option maxHeartbeats 6400000 in
theorem equal_both (J : Jt w B g h cap hr gp gw cp cw S F) : Calls Tryz.prog 9 #[P0 h, P0 hr] w fun e w' => e = .returned (.bool true) ∧ Below w.heap.size w w' := by
  obtain ⟨pb, cb, bv, kp, H⟩ := J.rf
  have HI := hide (fun x (hx : Below w.heap.size w x) => J.fl.below hx)
  have HR : Hid (∀ x, Below w.heap.size w x → IsRf x S hr gp gw cp cw pb cb bv F kp) := fun x hx => H.below hx
  have hle := H.le
  have hfit := H.fitp
  have hfitw := H.fitw
  have h0 := H.c0
  clear J H
  go_enter Tryz.func9, Tryz.ntmps9
  go_wp2
  go_loopw [16] (fun c wr => ∃ i : Nat, i ≤ F.n ∧ c = .int .i64 i ∧ Below w.heap.size w wr) (fun c _ => F.n - (intOf c).toNat)
  case atStart => exact ⟨0, Nat.zero_le _, rfl, Below.refl _ _⟩
  case round =>
    obtain ⟨i, hi, rfl, hb⟩ := hrel
    by_cases hlt : i < F.n
    · have Hr := unhide HR wr hb
      have g1 := Hr.page i hlt
      have g2 := Hr.room i hlt
      have g3 := Hr.c1
      have g4 := Hr.wear i hlt
      have HWD := hide (wear_any (unhide HI wr hb).drew i hlt)
      have hiI : (i : Int) < (F.n : Int) := by omega
      have HB := hide hb
      clear Hr hb
      go_wp2_with fail
      generalize F.wear i = we at HWD g4
      refine wp_region_held_drew (S := fun x => x.cell? ⟨hr, 1, none⟩ = some (.slice (some ⟨gw, 0, none⟩) F.n cw) ∧ x.cell? ⟨gw, i, none⟩ = some (.int .i64 we)) (by kernel_rfl) ⟨g3, g4⟩ (fun hHeld => ?_)
      refine wpAnyH_take (i := 0) (v := ?v1x0) rfl (by kernel_rfl) (by kernel_rfl) (by kernel_rfl) (fun _ _ _ h => h) (Or.inl ⟨by rfl, ?hy1x0⟩) (by assumption) ?rest1x0
      case hy1x0 => intro w hSw; obtain ⟨r0, r1⟩ := hSw; go_simp <;> with_reducible rfl
      simp only [Act.put, List.getElem_toArray, List.getElem_cons_zero, List.setIfInBounds_toArray, List.set_cons_zero, List.set_cons_succ]
      refine wpAnyH_take (i := 1) (v := ?v2x1) rfl (by kernel_rfl) (by kernel_rfl) (by kernel_rfl) (fun _ _ _ h => h) (Or.inl ⟨by rfl, ?hy2x1⟩) (by assumption) ?rest2x1
      case hy2x1 => intro w hSw; obtain ⟨r0, r1⟩ := hSw; go_simp <;> with_reducible rfl
      simp only [Act.put, List.getElem_toArray, List.getElem_cons_zero, List.getElem_cons_succ, List.setIfInBounds_toArray, List.set_cons_zero, List.set_cons_succ]
      refine wpAnyH_take (i := 3) (v := ?v3x3) rfl (by kernel_rfl) (by kernel_rfl) (by kernel_rfl) (fun _ _ _ h => h) (Or.inl ⟨by rfl, ?hy3x3⟩) (by assumption) ?rest3x3
      case hy3x3 => intro w hSw; obtain ⟨r0, r1⟩ := hSw; go_simp <;> with_reducible rfl
      simp only [Act.put, List.getElem_toArray, List.getElem_cons_zero, List.getElem_cons_succ, List.setIfInBounds_toArray, List.set_cons_zero, List.set_cons_succ]
      refine wpAnyH_take (i := 4) (v := ?v4x4) rfl (by kernel_rfl) (by kernel_rfl) (by kernel_rfl) (fun _ _ _ h => h) (Or.inl ⟨by rfl, ?hy4x4⟩) (by assumption) ?rest4x4
      case hy4x4 => intro w hSw; obtain ⟨r0, r1⟩ := hSw; go_simp <;> with_reducible rfl
      simp only [Act.put, List.getElem_toArray, List.getElem_cons_zero, List.getElem_cons_succ, List.setIfInBounds_toArray, List.set_cons_zero, List.set_cons_succ]
      refine wpAnyH_take (i := 5) (v := ?v5x5) rfl (by kernel_rfl) (by kernel_rfl) (by kernel_rfl) (fun _ _ _ h => h) (Or.inl ⟨by rfl, ?hy5x5⟩) (by assumption) ?rest5x5
      case hy5x5 => intro w hSw; obtain ⟨r0, r1⟩ := hSw; go_simp <;> with_reducible rfl
      simp only [Act.put, List.getElem_toArray, List.getElem_cons_zero, List.getElem_cons_succ, List.setIfInBounds_toArray, List.set_cons_zero, List.set_cons_succ]
      refine wpAnyH_take (i := 6) (v := ?v6x6) rfl (by kernel_rfl) (by kernel_rfl) (by kernel_rfl) (fun _ _ _ h => h) (Or.inl ⟨by rfl, ?hy6x6⟩) (by assumption) ?rest6x6
      case hy6x6 => intro w hSw; obtain ⟨r0, r1⟩ := hSw; go_simp <;> with_reducible rfl
      simp only [Act.put, List.getElem_toArray, List.getElem_cons_zero, List.getElem_cons_succ, List.setIfInBounds_toArray, List.set_cons_zero, List.set_cons_succ]
      refine wpAnyH_take (i := 7) (v := ?v7x7) rfl (by kernel_rfl) (by kernel_rfl) (by kernel_rfl) (fun _ _ _ h => h) (Or.inl ⟨by rfl, ?hy7x7⟩) (by assumption) ?rest7x7
      case hy7x7 => intro w hSw; obtain ⟨r0, r1⟩ := hSw; go_simp <;> with_reducible rfl
      simp only [Act.put, List.getElem_toArray, List.getElem_cons_zero, List.getElem_cons_succ, List.setIfInBounds_toArray, List.set_cons_zero, List.set_cons_succ]
      refine wpAnyH_take (i := 8) (v := ?v8x8) rfl (by kernel_rfl) (by kernel_rfl) (by kernel_rfl) (fun _ _ _ h => h) (Or.inl ⟨by rfl, ?hy8x8⟩) (by assumption) ?rest8x8
      case hy8x8 => intro w hSw; obtain ⟨r0, r1⟩ := hSw; go_simp <;> with_reducible rfl
      simp only [Act.put, List.getElem_toArray, List.getElem_cons_zero, List.getElem_cons_succ, List.setIfInBounds_toArray, List.set_cons_zero, List.set_cons_succ]
      refine wpAnyH_take (i := 9) (v := (.int .i64 we)) rfl (by kernel_rfl) (by kernel_rfl) (by kernel_rfl) (fun _ _ _ h => h) (Or.inl ⟨by rfl, ?hy9x9⟩) (by assumption) ?rest9x9
      case hy9x9 => intro w hSw; obtain ⟨r0, r1⟩ := hSw; go_simp <;> with_reducible rfl
      simp only [Act.put, List.getElem_toArray, List.getElem_cons_zero, List.getElem_cons_succ, List.setIfInBounds_toArray, List.set_cons_zero, List.set_cons_succ]
      refine wpAnyH_ready (rs := [2]) (by kernel_rfl) (by simp) ?_
      refine AllReadyH.cons rfl (fun K hK => ?_) AllReadyH.nil
      go_simp
      refine (unhide HWD).mono ?_
      rintro e w1 ⟨rfl, rfl⟩
      refine hK _ _ ⟨g3, g4⟩ ?_
      clear hK hHeld
      intro hHeld
      refine wpAnyH_take (i := 10) (v := (.bool false)) rfl (by kernel_rfl) (by kernel_rfl) (by kernel_rfl) (fun _ _ _ h => h) (Or.inl ⟨by rfl, ?hy10x10⟩) (by assumption) ?rest10x10
      case hy10x10 => intro w hSw; obtain ⟨r0, r1⟩ := hSw; go_simp <;> with_reducible rfl
      simp only [Act.put, List.getElem_toArray, List.getElem_cons_zero, List.getElem_cons_succ, List.setIfInBounds_toArray, List.set_cons_zero, List.set_cons_succ]
      refine wpAnyH_done (by kernel_rfl) ?_ _
      obtain ⟨X, hX⟩ : ∃ X, wr.drew = X := ⟨_, rfl⟩
      have HBX : Hid (Below w.heap.size w X) := hX ▸ (unhide HB).drew
      rw [hX]
      clear hX hHeld g1 g3 g4 HB
      go_wp2
      go_loopw [34] (fun c wq => ∃ j : Nat, j ≤ 16 ∧ c = .int .i64 j ∧ Below w.heap.size w wq) (fun c _ => 16 - (intOf c).toNat)
      case atStart => exact ⟨0, by omega, rfl, unhide HBX⟩
      case round =>
        rename_i hrelO
        obtain ⟨j, hj, rfl, hb⟩ := hrel
        by_cases hj16 : j < 16
        · have Hr := unhide HR wr hb
          obtain ⟨p0, p1, p2⟩ := Hr.cells i hlt j hj16
          obtain ⟨ba, bl, bc, hbv⟩ := Hr.shape i j hlt hj16
          rw [hbv] at p2
          have hjI : (j : Int) < 16 := by omega
          have HB1 := hide hb
          generalize hdh : decide (F.st i j ≠ 0) = dh at p0
          generalize hdt : decide (F.st i j = 1) = dt at p1
          obtain ⟨V, hV⟩ : ∃ V, wr.alloc (.cells #[.bool dh, .bool dt, .slice ba bl bc] 67) = V := ⟨_, rfl⟩
          have bV : Below wr.heap.size wr V := hV ▸ (Below.refl _ _).alloc (Nat.le_refl _) _
          have hsV : V.heap.size = wr.heap.size + 1 := by rw [← hV]; simp
          have HVX : Hid (∀ x, Below V.heap.size V x → x.cell? ⟨wr.heap.size, 0, none⟩ = some (.bool dh) ∧ x.cell? ⟨wr.heap.size, 1, none⟩ = some (.bool dt) ∧ x.cell? ⟨wr.heap.size, 2, none⟩ = some (.slice ba bl bc)) := fun x hx => box3 (by rw [hV, ← hsV]; exact hx)
          have HBV : Hid (Below w.heap.size w V) := hb.trans (bV.mono hb.size)
          cases hdn : F.down
          case true =>
            have HRD := hide (read_all (unhide HI V (unhide HBV)) (i : Int) (j : Int))
            generalize F.readE i j = er at HRD
            clear Hr hb hsV bV
            go_wp2_with (first | rw [hV] | fail)
            refine (unhide HRD).mono ?_
            rintro e w5 ⟨yv, rfl, s5, b5⟩
            have HB5 : Hid (Below w.heap.size w w5) := (unhide HBV).trans (b5.mono (unhide HBV).size)
            have HDN := hide (down_any (unhide HI w5 (unhide HB5)))
            rw [hdn] at HDN
            have HU1 := hide (fused_any (unhide HI w5 (unhide HB5)) (i : Int))
            have HU2 : Hid (∀ x, Below w.heap.size w x → _) := fun x hx => rused_any (unhide HR x hx) (i : Int)
            generalize F.usedE i = us at HU1 HU2
            obtain ⟨_, _, rfl, _⟩ := s5
            clear b5
            go_wp2_with fail
            refine (unhide HDN).mono ?_
            rintro e w6 ⟨rfl, rfl⟩
            go_wp2_with fail
            refine (unhide HU1).mono ?_
            rintro e w7 ⟨rfl, b7⟩
            have HB7 : Hid (Below w.heap.size w w7) := (unhide HB5).trans (b7.mono (unhide HB5).size)
            clear b7
            go_wp2_with fail
            refine (unhide HU2 w7 (unhide HB7)).mono ?_
            rintro e w8 ⟨rfl, rfl⟩
            go_wp2
            go_ret
            exact ⟨rfl, unhide HB7⟩
          case false =>
            rcases Hr.stOk i j hlt hj16 with hs | hs | hs
            · have hre : F.readE i j = 21 := by rw [readE_is Hr hdn i j hlt hj16, if_neg (by rw [hs]; decide), if_neg (by rw [hs]; decide)]
              obtain rfl : dh = false := by rw [← hdh, hs]; decide
              obtain rfl : dt = false := by rw [← hdt, hs]; decide
              have HRD := hide (read_all (unhide HI V (unhide HBV)) (i : Int) (j : Int))
              rw [hre] at HRD
              clear Hr hb hsV hs hre hdh hdt hbv bV
              go_wp2_with (first | rw [hV] | fail)
              refine (unhide HRD).mono ?_
              rintro e w5 ⟨yv, rfl, s5, b5⟩
              have HB5 : Hid (Below w.heap.size w w5) := (unhide HBV).trans (b5.mono (unhide HBV).size)
              have HDN := hide (down_any (unhide HI w5 (unhide HB5)))
              rw [hdn] at HDN
              obtain ⟨z0, z1, z2⟩ := unhide HVX w5 b5
              obtain ⟨_, _, rfl, _⟩ := s5
              clear b5
              go_wp2_with fail
              refine (unhide HDN).mono ?_
              rintro e w6 ⟨rfl, rfl⟩
              go_wp2
              go_roundw
              case rel => exact ⟨j + 1, by omega, by go_num, unhide HB5⟩
              case measure => simp [intOf]; omega
            · have hre : F.readE i j = 22 := by rw [readE_is Hr hdn i j hlt hj16, if_neg (by rw [hs]; decide), if_pos hs]
              obtain rfl : dh = true := by rw [← hdh, hs]; decide
              obtain rfl : dt = true := by rw [← hdt, hs]; decide
              have HRD := hide (read_all (unhide HI V (unhide HBV)) (i : Int) (j : Int))
              rw [hre] at HRD
              clear Hr hb hsV hs hre hdh hdt hbv bV
              go_wp2_with (first | rw [hV] | fail)
              refine (unhide HRD).mono ?_
              rintro e w5 ⟨yv, rfl, s5, b5⟩
              have HB5 : Hid (Below w.heap.size w w5) := (unhide HBV).trans (b5.mono (unhide HBV).size)
              have HDN := hide (down_any (unhide HI w5 (unhide HB5)))
              rw [hdn] at HDN
              obtain ⟨z0, z1, z2⟩ := unhide HVX w5 b5
              obtain ⟨_, _, rfl, _⟩ := s5
              clear b5
              go_wp2_with fail
              refine (unhide HDN).mono ?_
              rintro e w6 ⟨rfl, rfl⟩
              go_wp2
              go_roundw
              case rel => exact ⟨j + 1, by omega, by go_num, unhide HB5⟩
              case measure => simp [intOf]; omega
            · have hre : F.readE i j = 0 := by rw [readE_is Hr hdn i j hlt hj16, if_pos hs]
              obtain rfl : dh = true := by rw [← hdh, hs]; decide
              obtain rfl : dt = false := by rw [← hdt, hs]; decide
              have HRD := hide (read_all (unhide HI V (unhide HBV)) (i : Int) (j : Int))
              rw [hre] at HRD
              rw [Hr.readB hdn i j hlt hj16 hs] at HRD
              have hby := (Hr.bytes i j hlt hj16 hs).1
              rw [hbv] at hby
              have HBY := hide (hby.below bV)
              have HBB := hide (bytesOf_byt (F.bs i j))
              clear hby
              generalize bytesOf (F.bs i j) = zb at HRD HBY HBB
              obtain rfl : bl = zb.length := by obtain ⟨_, _, e, _⟩ := unhide HBY; simp only [Value.slice.injEq] at e; exact e.2.1
              clear Hr hb hsV hs hre hdh hdt hbv bV
              go_wp2_with (first | rw [hV] | fail)
              refine (unhide HRD).mono ?_
              rintro e w5 ⟨yv, rfl, s5, b5⟩
              have HB5 : Hid (Below w.heap.size w w5) := (unhide HBV).trans (b5.mono (unhide HBV).size)
              have HDN := hide (down_any (unhide HI w5 (unhide HB5)))
              rw [hdn] at HDN
              obtain ⟨z0, z1, z2⟩ := unhide HVX w5 b5
              have HEQ := hide (equal_true (.slice ba zb.length bc) yv zb w5 ((unhide HBY).below b5) s5 (unhide HBB))
              obtain ⟨_, _, rfl, _⟩ := s5
              clear b5
              go_wp2_with fail
              refine (unhide HDN).mono ?_
              rintro e w6 ⟨rfl, rfl⟩
              go_wp2_with fail
              refine (unhide HEQ).mono ?_
              rintro e w6 ⟨rfl, rfl⟩
              go_wp2
              go_roundw
              case rel => exact ⟨j + 1, by omega, by go_num, unhide HB5⟩
              case measure => simp [intOf]; omega
        · have HB1 := hide hb
          clear hb
          go_wp2
          go_roundw
          case rel => exact ⟨i + 1, by omega, by go_num, unhide HB1⟩
          case measure => simp [intOf]; omega
    · have HB := hide hb
      clear hb
      go_wp2
      go_ret
      exact ⟨rfl, unhide HB⟩
end Go.Proofs.YtiijbklaapaheaaGreat
