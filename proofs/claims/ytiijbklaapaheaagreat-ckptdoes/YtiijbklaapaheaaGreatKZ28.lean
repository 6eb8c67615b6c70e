/- Several texts as one. -/
import Derived.Test.YtiijbklaapaheaaGreatKI
import Derived.Test.YtiijbklaapaheaaGreatKF

/- CkptDoes: what its step leans on. -/
namespace Go.Proofs.YtiijbklaapaheaaGreat
open Go.RowKit
set_option maxRecDepth 100000

set_option maxHeartbeats 400000 in
theorem crash_ok {g h cap : Nat} {F : Fl} {w : World} (H : IsFl w g h cap F) (hd : F.down = false) :
    Calls Tryz.prog 19 #[P0 h] w fun e w' => e = .returned (.int .i64 0) ∧ IsFl w' g h cap F.fall ∧ Upd (Two g h) w.heap.size w w' := by
  have HR := hide (ready_up H hd)
  have HF := hide (fall_any H)
  clear H
  go_enter Tryz.func19, Tryz.ntmps19
  go_wp2_with (first
    | (go_at_call 45; refine (unhide HR).mono ?_; rintro e w' ⟨rfl, rfl⟩)
    | (go_at_call 46; refine (unhide HF).mono ?_; rintro e w1 ⟨rfl, hI, hU⟩))
  go_ret
  exact ⟨rfl, hI, hU⟩

set_option maxHeartbeats 400000 in
theorem crash_err {v : Value} {er : Int} {w : World} (he : er ≠ 0) (HR : Calls Tryz.prog 45 #[v] w fun e w' => e = .returned (.int .i64 er) ∧ w = w') :
    Calls Tryz.prog 19 #[v] w fun e w' => e = .returned (.int .i64 er) ∧ w = w' := by
  have HR := hide HR
  go_enter Tryz.func19, Tryz.ntmps19
  go_wp2_with (go_at_call 45; refine (unhide HR).mono ?_; rintro e w' ⟨rfl, rfl⟩)
  go_ret
  exact ⟨rfl, rfl⟩

theorem crash_all {g h cap : Nat} {F : Fl} {w : World} (H : IsFl w g h cap F) :
    Calls Tryz.prog 19 #[P0 h] w fun e w' => e = .returned (.int .i64 F.crash.1) ∧ IsFl w' g h cap F.crash.2 ∧ Upd (Two g h) w.heap.size w w' := by
  unfold Fl.crash
  by_cases hd : F.down = true
  · rw [if_pos hd]
    exact (crash_err (by decide) (ready_down H hd)).mono (by rintro e w' ⟨rfl, rfl⟩; exact ⟨rfl, H, Upd.refl _ _ _⟩)
  · rw [if_neg hd]
    exact crash_ok H (by simpa using hd)
theorem restart_all {g h cap : Nat} {F : Fl} {w : World} (H : IsFl w g h cap F) :
    Calls Tryz.prog 21 #[P0 h] w fun e w' => e = .returned (.int .i64 F.restart.1) ∧ IsFl w' g h cap F.restart.2 ∧ Upd (Two g h) w.heap.size w w' := by
  unfold Fl.restart
  by_cases hd : F.down = true
  · rw [if_pos hd]
    exact restart_ok H hd
  · rw [if_neg hd]
    exact (restart_up H (by simpa using hd)).mono (by rintro e w' ⟨rfl, rfl⟩; exact ⟨rfl, H, Upd.refl _ _ _⟩)
theorem fuse_all {g h cap : Nat} {F : Fl} {w : World} (H : IsFl w g h cap F) (c k : Int) :
    Calls Tryz.prog 17 #[P0 h, .int .i64 c, .int .i64 k] w fun e w' => e = .returned (.int .i64 (F.fuse c k).1) ∧ IsFl w' g h cap (F.fuse c k).2 ∧ Upd (Two g h) w.heap.size w w' := by
  unfold Fl.fuse
  by_cases hd : F.down = true
  · rw [if_pos hd]
    exact (fuse_err (by decide) (ready_down H hd) c k).mono (by rintro e w' ⟨rfl, rfl⟩; exact ⟨rfl, H, Upd.refl _ _ _⟩)
  · rw [if_neg hd]
    by_cases hc : c < 1
    · rw [if_pos hc]
      exact (fuse_arg H (by simpa using hd) c k hc).mono (by rintro e w' ⟨rfl, rfl⟩; exact ⟨rfl, H, Upd.refl _ _ _⟩)
    · rw [if_neg hc]
      exact fuse_ok H (by simpa using hd) c k (by omega)


variable {w : World} {S : Nat → Prop} {B g h cap hr gp gw cp cw : Nat} {F : Fl}

/-- No page shows more than a page's bytes. -/
theorem IsRf.hP {pb cb : Nat → Nat} {bv : Nat → Nat → Value} {kp : Int} (H : IsRf w S hr gp gw cp cw pb cb bv F kp) (i j : Int) : (F.readB i j).length ≤ 256 := by
  unfold Fl.readB
  split
  · rename_i c
    rw [bytesOf_len]
    unfold Fl.readE at c
    split at c
    · cases c
    · split at c
      · cases c
      · rename_i hw
        have hw' := Decidable.not_not.1 hw
        obtain ⟨a1, a2, a3, a4⟩ := hw'
        split at c
        · rename_i hs
          have := H.full i.toNat j.toNat (by omega) (by omega) hs
          omega
        · split at c <;> cases c
  · exact Nat.zero_le _
theorem Jt.hP (J : Jt w B g h cap hr gp gw cp cw S F) (i j : Int) : (F.readB i j).length ≤ 256 := by
  obtain ⟨_, _, _, _, H⟩ := J.rf
  exact H.hP i j
theorem Jt.cnt (J : Jt w B g h cap hr gp gw cp cw S F) : 0 ≤ F.cnt ∧ F.cnt ≤ 9223372036854775807 := by
  obtain ⟨_, _, _, _, H⟩ := J.rf
  exact ⟨H.cnt0, H.cnt1⟩
theorem Jt.full (J : Jt w B g h cap hr gp gw cp cw S F) : ∀ i j, i < F.n → j < 16 → F.st i j = 2 → (F.bs i j).size = 256 := by
  obtain ⟨_, _, _, _, H⟩ := J.rf
  exact H.full

/-- Behind the flash's own call comes the document's. -/
theorem pair_doc {X w1 : World} {R : Int} {F1 : Fl} (JX : Jt X B g h cap hr gp gw cp cw S F) (i1 : IsFl w1 g h cap F1) (u1 : Upd (Two g h) X.heap.size X w1) (fn : Nat) (args : Array Value)
    (HC : ∀ pb cb bv kp, IsRf w1 S hr gp gw cp cw pb cb bv F kp → (∀ k, S k → k < w1.heap.size) → Below B X w1 → Calls Tryz.prog fn args w1 fun e w2 => e = .returned (.int .i64 R) ∧ IsRfE w2 S hr gp gw cp cw F1 ∧ Upd (OnlyRf hr gp gw) w1.heap.size w1 w2) :
    Calls Tryz.prog fn args w1 fun e w2 => e = .returned (.int .i64 R) ∧ Jt w2 B g h cap hr gp gw cp cw S F1 ∧ Below B X w2 ∧ ∀ b, b < X.heap.size → ¬ Two g h b → ¬ OnlyRf hr gp gw b → w2.heap[b]? = X.heap[b]? := by
  obtain ⟨pb, cb, bv, kp, H, hin, hb⟩ := JX.half u1
  refine (HC pb cb bv kp H hin hb).mono ?_
  rintro e w2 ⟨rfl, i2, u2⟩
  obtain ⟨j, hb2⟩ := JX.whole u1.size i1 i2 u2
  exact ⟨rfl, j, hb.trans hb2, fun b h1 h2 h3 => (u2.block b (by have := u1.size; omega) h3).trans (u1.block b h1 h2)⟩

/-- What a step leaves. -/
def Stp (B g h cap hr gp gw cp cw : Nat) (S : Nat → Prop) (w : World) (e : Ending) (w' : World) : Prop :=
  e = .returned (.bool true) ∧ ∃ F', Jt w' B g h cap hr gp gw cp cw S F' ∧ Below B w w'
end Go.Proofs.YtiijbklaapaheaaGreat

/- CkptDoes: the arms of its step. -/
namespace Go.Proofs.YtiijbklaapaheaaGreat
open Go.RowKit
set_option maxRecDepth 100000
variable {w : World} {S : Nat → Prop} {B g h cap hr gp gw cp cw : Nat} {F : Fl}

set_option maxHeartbeats 1600000 in
theorem st_save (J : Jt w B g h cap hr gp gw cp cw S F) (hB : B ≤ w.heap.size) (f n slot last x6 x7 x8 : Int) (ao : Option Addr) (dc : Nat) (ds : List Int) (hd : Sees w .u8 (.slice ao ds.length dc) ds) (hdB : ∀ p, ao = some p → p.block < B ∨ ds = []) (hby : Byt ds) (hf : -9223372036854775808 ≤ f ∧ f ≤ 9223372036854775807) (hn : -9223372036854775808 ≤ n ∧ n ≤ 9223372036854775807) (hl : ds.length ≤ 9223372036854775807) :
    Calls Tryz.prog 7 #[P0 h, P0 hr, .agg #[.int .i64 0, .int .i64 f, .int .i64 n, .int .i64 slot, .int .i64 last, .slice ao ds.length dc, .int .i64 x6, .int .i64 x7, .int .i64 x8]] w (Stp B g h cap hr gp gw cp cw S w) := by
  obtain ⟨V, hV⟩ : ∃ V, w.alloc (.cells #[.int .i64 0, .int .i64 f, .int .i64 n, .int .i64 slot, .int .i64 last, .slice ao ds.length dc, .int .i64 x6, .int .i64 x7, .int .i64 x8] 37) = V := ⟨_, rfl⟩
  have bV : Below w.heap.size w V := hV ▸ (Below.refl _ _).alloc (Nat.le_refl _) _
  have hsV : V.heap.size = w.heap.size + 1 := by rw [← hV]; simp
  have HBW : Hid (∀ x, Below B V x → Below B w x) := fun x hx => (bV.mono hB).trans hx
  have HX : Hid (∀ x : World, x.heap[w.heap.size]? = V.heap[w.heap.size]? → x.cell? ⟨w.heap.size, 0, none⟩ = some (.int .i64 0) ∧ x.cell? ⟨w.heap.size, 1, none⟩ = some (.int .i64 f) ∧ x.cell? ⟨w.heap.size, 2, none⟩ = some (.int .i64 n) ∧ x.cell? ⟨w.heap.size, 3, none⟩ = some (.int .i64 slot) ∧ x.cell? ⟨w.heap.size, 4, none⟩ = some (.int .i64 last) ∧ x.cell? ⟨w.heap.size, 5, none⟩ = some (.slice ao ds.length dc) ∧ x.cell? ⟨w.heap.size, 6, none⟩ = some (.int .i64 x6) ∧ x.cell? ⟨w.heap.size, 7, none⟩ = some (.int .i64 x7) ∧ x.cell? ⟨w.heap.size, 8, none⟩ = some (.int .i64 x8)) := fun x hx => by
    have c : ∀ o, x.cell? ⟨w.heap.size, o, none⟩ = V.cell? ⟨w.heap.size, o, none⟩ := fun o => World.cell?_of_block (w := V) hx
    refine ⟨?_, ?_, ?_, ?_, ?_, ?_, ?_, ?_, ?_⟩ <;> (rw [c, ← hV]; simp [go_sem])
  obtain ⟨gl, hhl⟩ : g < w.heap.size ∧ h < w.heap.size := ⟨J.fl.glt, J.fl.hlt⟩
  obtain ⟨rl1, rl2, rl3⟩ : hr < w.heap.size ∧ gp < w.heap.size ∧ gw < w.heap.size := by obtain ⟨_, _, _, _, H⟩ := J.rf; exact ⟨H.rlt.1, H.rlt.2.1, H.rlt.2.2.1⟩
  have HNT : Hid (¬ Two g h w.heap.size ∧ ¬ OnlyRf hr gp gw w.heap.size) := ⟨by show ¬ (w.heap.size = g ∨ w.heap.size = h); omega, by show ¬ (w.heap.size = hr ∨ w.heap.size = gp ∨ w.heap.size = gw); omega⟩
  have JX : Jt V.drew B g h cap hr gp gw cp cw S F := J.below bV.drew
  have HSV := hide hsV
  have HSE : Hid (∀ x, Below B w x → Sees x .u8 (.slice ao ds.length dc) ds) := fun x hx => by
    obtain ⟨ao', c', e, s1, s2, s3⟩ := hd
    simp only [Value.slice.injEq, true_and] at e
    obtain ⟨rfl, rfl⟩ := e
    refine ⟨_, _, rfl, s1, s2, fun a ha t ht => ?_⟩
    rcases hdB a ha with h1 | h1
    · have hb : (a.add t).block = a.block := by unfold Addr.add; split <;> rfl
      rw [hx.cell (p := a.add t) (by rw [hb]; exact h1)]
      exact s3 a ha t ht
    · subst h1; simp at ht
  have hbX : Below B w V.drew := (bV.drew).mono hB
  have HP1 : Hid (Calls Tryz.prog 10 #[P0 h, .agg #[.int .i64 f, .int .i64 n], .agg #[.int .i64 slot, .int .i64 last, .slice ao ds.length dc]] (V.drew) fun e w' => e = .returned (.int .i64 (sav F f n slot last ds).1) ∧ IsFl w' g h cap (sav F f n slot last ds).2 ∧ Upd (Two g h) (V.drew).heap.size (V.drew) w') := save_all JX.fl JX.cnt.1 JX.cnt.2 JX.hP f n hf.2 slot last ao dc ds (unhide HSE _ hbX) hby hl
  have HP2 : Hid (∀ w1, IsFl w1 g h cap (sav F f n slot last ds).2 → Upd (Two g h) (V.drew).heap.size (V.drew) w1 → Calls Tryz.prog 13 #[P0 hr, .agg #[.int .i64 f, .int .i64 n], .agg #[.int .i64 slot, .int .i64 last, .slice ao ds.length dc]] w1 fun e w2 => e = .returned (.int .i64 (sav F f n slot last ds).1) ∧ Jt w2 B g h cap hr gp gw cp cw S (sav F f n slot last ds).2 ∧ Below B (V.drew) w2 ∧ ∀ b, b < (V.drew).heap.size → ¬ Two g h b → ¬ OnlyRf hr gp gw b → w2.heap[b]? = (V.drew).heap[b]?) := fun w1 i1 u1 => pair_doc JX i1 u1 _ _ (fun pb cb bv kp H hin hb => rsave_any H hin f n hf hn slot last ao dc ds (unhide HSE _ (hbX.trans hb)) hby hl)
  have HBX : Hid (∀ w1, Upd (Two g h) (V.drew).heap.size (V.drew) w1 → w1.heap[w.heap.size]? = V.heap[w.heap.size]?) := fun w1 u1 => u1.block w.heap.size (by show w.heap.size < V.heap.size; omega) (unhide HNT).1
  have HB2 : Hid (∀ w2, Below B (V.drew) w2 → Below B w w2) := fun w2 b => unhide HBW w2 ((Below.refl _ _).drew.trans b)
  have HS2 : Hid (w.heap.size < (V.drew).heap.size) := by show w.heap.size < V.heap.size; omega
  generalize (sav F f n slot last ds).1 = er at HP1 HP2
  generalize (sav F f n slot last ds).2 = F1 at HP1 HP2
  clear J JX bV hsV gl hhl rl1 rl2 rl3
  obtain ⟨q0, q1, q2, q3, q4, q5, q6, q7, q8⟩ := unhide HX V rfl
  go_enter Tryz.func7, Tryz.ntmps7
  go_wp2_with (first | rw [hV] | fail)
  refine wp_region_held_drew (S := fun x => x.cell? ⟨w.heap.size, 0, none⟩ = some (.int .i64 0) ∧ x.cell? ⟨w.heap.size, 1, none⟩ = some (.int .i64 f) ∧ x.cell? ⟨w.heap.size, 2, none⟩ = some (.int .i64 n) ∧ x.cell? ⟨w.heap.size, 3, none⟩ = some (.int .i64 slot) ∧ x.cell? ⟨w.heap.size, 4, none⟩ = some (.int .i64 last) ∧ x.cell? ⟨w.heap.size, 5, none⟩ = some (.slice ao ds.length dc) ∧ x.cell? ⟨w.heap.size, 6, none⟩ = some (.int .i64 x6) ∧ x.cell? ⟨w.heap.size, 7, none⟩ = some (.int .i64 x7) ∧ x.cell? ⟨w.heap.size, 8, none⟩ = some (.int .i64 x8)) (by kernel_rfl) (unhide HX V.drew rfl) (fun hHeld => ?_)
  refine wpAnyH_take (i := 0) (v := ?v1x0) rfl (by as_aux_lemma => kernel_rfl) (by as_aux_lemma => kernel_rfl) (by as_aux_lemma => kernel_rfl) (fun _ _ _ h => h) (Or.inl ⟨by rfl, ?hy1x0⟩) (by assumption) ?rest1x0
  case hy1x0 => intro w hSw; obtain ⟨r0, r1, r2, r3, r4, r5, r6, r7, r8⟩ := hSw; go_simp <;> with_reducible rfl
  simp only [Act.put, List.getElem_toArray, List.getElem_cons_zero, List.setIfInBounds_toArray, List.set_cons_zero, List.set_cons_succ]
  refine wpAnyH_take (i := 1) (v := ?v2x1) rfl (by as_aux_lemma => kernel_rfl) (by as_aux_lemma => kernel_rfl) (by as_aux_lemma => kernel_rfl) (fun _ _ _ h => h) (Or.inl ⟨by rfl, ?hy2x1⟩) (by assumption) ?rest2x1
  case hy2x1 => intro w hSw; obtain ⟨r0, r1, r2, r3, r4, r5, r6, r7, r8⟩ := hSw; go_simp <;> with_reducible rfl
  simp only [Act.put, List.getElem_toArray, List.getElem_cons_zero, List.getElem_cons_succ, List.setIfInBounds_toArray, List.set_cons_zero, List.set_cons_succ]
  refine wpAnyH_take (i := 2) (v := (.agg #[.int .i64 f, .int .i64 n])) rfl (by as_aux_lemma => kernel_rfl) (by as_aux_lemma => kernel_rfl) (by as_aux_lemma => kernel_rfl) (fun _ _ _ h => h) (Or.inl ⟨by rfl, ?hy3x2⟩) (by assumption) ?rest3x2
  case hy3x2 => intro w hSw; obtain ⟨r0, r1, r2, r3, r4, r5, r6, r7, r8⟩ := hSw; go_simp <;> with_reducible rfl
  simp only [Act.put, List.getElem_toArray, List.getElem_cons_zero, List.getElem_cons_succ, List.setIfInBounds_toArray, List.set_cons_zero, List.set_cons_succ]
  refine wpAnyH_take (i := 3) (v := ?v4x3) rfl (by as_aux_lemma => kernel_rfl) (by as_aux_lemma => kernel_rfl) (by as_aux_lemma => kernel_rfl) (fun _ _ _ h => h) (Or.inl ⟨by rfl, ?hy4x3⟩) (by assumption) ?rest4x3
  case hy4x3 => intro w hSw; obtain ⟨r0, r1, r2, r3, r4, r5, r6, r7, r8⟩ := hSw; go_simp <;> with_reducible rfl
  simp only [Act.put, List.getElem_toArray, List.getElem_cons_zero, List.getElem_cons_succ, List.setIfInBounds_toArray, List.set_cons_zero, List.set_cons_succ]
  refine wpAnyH_take (i := 4) (v := (.agg #[.int .i64 slot, .int .i64 last, .slice ao ds.length dc])) rfl (by as_aux_lemma => kernel_rfl) (by as_aux_lemma => kernel_rfl) (by as_aux_lemma => kernel_rfl) (fun _ _ _ h => h) (Or.inl ⟨by rfl, ?hy5x4⟩) (by assumption) ?rest5x4
  case hy5x4 => intro w hSw; obtain ⟨r0, r1, r2, r3, r4, r5, r6, r7, r8⟩ := hSw; go_simp <;> with_reducible rfl
  simp only [Act.put, List.getElem_toArray, List.getElem_cons_zero, List.getElem_cons_succ, List.setIfInBounds_toArray, List.set_cons_zero, List.set_cons_succ]
  refine wpAnyH_take (i := 6) (v := ?v6x6) rfl (by as_aux_lemma => kernel_rfl) (by as_aux_lemma => kernel_rfl) (by as_aux_lemma => kernel_rfl) (fun _ _ _ h => h) (Or.inl ⟨by rfl, ?hy6x6⟩) (by assumption) ?rest6x6
  case hy6x6 => intro w hSw; obtain ⟨r0, r1, r2, r3, r4, r5, r6, r7, r8⟩ := hSw; go_simp <;> with_reducible rfl
  simp only [Act.put, List.getElem_toArray, List.getElem_cons_zero, List.getElem_cons_succ, List.setIfInBounds_toArray, List.set_cons_zero, List.set_cons_succ]
  refine wpAnyH_take (i := 7) (v := ?v7x7) rfl (by as_aux_lemma => kernel_rfl) (by as_aux_lemma => kernel_rfl) (by as_aux_lemma => kernel_rfl) (fun _ _ _ h => h) (Or.inl ⟨by rfl, ?hy7x7⟩) (by assumption) ?rest7x7
  case hy7x7 => intro w hSw; obtain ⟨r0, r1, r2, r3, r4, r5, r6, r7, r8⟩ := hSw; go_simp <;> with_reducible rfl
  simp only [Act.put, List.getElem_toArray, List.getElem_cons_zero, List.getElem_cons_succ, List.setIfInBounds_toArray, List.set_cons_zero, List.set_cons_succ]
  refine wpAnyH_take (i := 8) (v := (.agg #[.int .i64 f, .int .i64 n])) rfl (by as_aux_lemma => kernel_rfl) (by as_aux_lemma => kernel_rfl) (by as_aux_lemma => kernel_rfl) (fun _ _ _ h => h) (Or.inl ⟨by rfl, ?hy8x8⟩) (by assumption) ?rest8x8
  case hy8x8 => intro w hSw; obtain ⟨r0, r1, r2, r3, r4, r5, r6, r7, r8⟩ := hSw; go_simp <;> with_reducible rfl
  simp only [Act.put, List.getElem_toArray, List.getElem_cons_zero, List.getElem_cons_succ, List.setIfInBounds_toArray, List.set_cons_zero, List.set_cons_succ]
  refine wpAnyH_take (i := 9) (v := ?v9x9) rfl (by as_aux_lemma => kernel_rfl) (by as_aux_lemma => kernel_rfl) (by as_aux_lemma => kernel_rfl) (fun _ _ _ h => h) (Or.inl ⟨by rfl, ?hy9x9⟩) (by assumption) ?rest9x9
  case hy9x9 => intro w hSw; obtain ⟨r0, r1, r2, r3, r4, r5, r6, r7, r8⟩ := hSw; go_simp <;> with_reducible rfl
  simp only [Act.put, List.getElem_toArray, List.getElem_cons_zero, List.getElem_cons_succ, List.setIfInBounds_toArray, List.set_cons_zero, List.set_cons_succ]
  refine wpAnyH_take (i := 10) (v := (.agg #[.int .i64 slot, .int .i64 last, .slice ao ds.length dc])) rfl (by as_aux_lemma => kernel_rfl) (by as_aux_lemma => kernel_rfl) (by as_aux_lemma => kernel_rfl) (fun _ _ _ h => h) (Or.inl ⟨by rfl, ?hy10x10⟩) (by assumption) ?rest10x10
  case hy10x10 => intro w hSw; obtain ⟨r0, r1, r2, r3, r4, r5, r6, r7, r8⟩ := hSw; go_simp <;> with_reducible rfl
  simp only [Act.put, List.getElem_toArray, List.getElem_cons_zero, List.getElem_cons_succ, List.setIfInBounds_toArray, List.set_cons_zero, List.set_cons_succ]
  refine wpAnyH_ready (rs := [5]) (by as_aux_lemma => kernel_rfl) (by simp) ?_
  refine AllReadyH.cons rfl (fun K hK => ?_) AllReadyH.nil
  go_simp
  refine (unhide HP1).mono ?_
  rintro e w1 ⟨rfl, i1, u1⟩
  refine hK _ _ (unhide HX w1 (unhide HBX w1 u1)) ?_
  clear hK hHeld
  have HC2 := hide (unhide HP2 w1 i1 u1)
  clear i1 u1
  intro hHeld
  refine wpAnyH_ready (rs := [11]) (by as_aux_lemma => kernel_rfl) (by simp) ?_
  refine AllReadyH.cons rfl (fun K hK => ?_) AllReadyH.nil
  go_simp
  refine (unhide HC2).mono ?_
  rintro e w2 ⟨rfl, j2, b2, k2⟩
  refine hK _ _ (unhide HX w2 (k2 _ (unhide HS2) (unhide HNT).1 (unhide HNT).2)) ?_
  clear hK hHeld
  have HJ2 := hide j2
  have HBF := hide (unhide HB2 w2 b2)
  clear j2 b2 k2
  intro hHeld
  refine wpAnyH_take (i := 12) (v := (.bool true)) rfl (by as_aux_lemma => kernel_rfl) (by as_aux_lemma => kernel_rfl) (by as_aux_lemma => kernel_rfl) (fun _ _ _ h => h) (Or.inl ⟨by rfl, ?hy11x12⟩) (by assumption) ?rest11x12
  case hy11x12 => intro w hSw; obtain ⟨r0, r1, r2, r3, r4, r5, r6, r7, r8⟩ := hSw; go_simp <;> with_reducible rfl
  simp only [Act.put, List.getElem_toArray, List.getElem_cons_zero, List.getElem_cons_succ, List.setIfInBounds_toArray, List.set_cons_zero, List.set_cons_succ]
  refine wpAnyH_take (i := 13) (v := ?v12x13) rfl (by as_aux_lemma => kernel_rfl) (by as_aux_lemma => kernel_rfl) (by as_aux_lemma => kernel_rfl) (fun _ _ _ h => h) (Or.inl ⟨by rfl, ?hy12x13⟩) (by assumption) ?rest12x13
  case hy12x13 => intro w hSw; obtain ⟨r0, r1, r2, r3, r4, r5, r6, r7, r8⟩ := hSw; go_simp <;> with_reducible rfl
  simp only [Act.put, List.getElem_toArray, List.getElem_cons_zero, List.getElem_cons_succ, List.setIfInBounds_toArray, List.set_cons_zero, List.set_cons_succ]
  refine wpAnyH_done (by as_aux_lemma => kernel_rfl) ?_ _
  go_wp2
  go_ret
  exact ⟨rfl, _, unhide HJ2, unhide HBF⟩

set_option maxHeartbeats 1600000 in
theorem st_fuse (J : Jt w B g h cap hr gp gw cp cw S F) (hB : B ≤ w.heap.size) (f n slot last x6 x7 x8 : Int) (ao : Option Addr) (dc : Nat) (ds : List Int) :
    Calls Tryz.prog 7 #[P0 h, P0 hr, .agg #[.int .i64 2, .int .i64 f, .int .i64 n, .int .i64 slot, .int .i64 last, .slice ao ds.length dc, .int .i64 x6, .int .i64 x7, .int .i64 x8]] w (Stp B g h cap hr gp gw cp cw S w) := by
  obtain ⟨V, hV⟩ : ∃ V, w.alloc (.cells #[.int .i64 2, .int .i64 f, .int .i64 n, .int .i64 slot, .int .i64 last, .slice ao ds.length dc, .int .i64 x6, .int .i64 x7, .int .i64 x8] 37) = V := ⟨_, rfl⟩
  have bV : Below w.heap.size w V := hV ▸ (Below.refl _ _).alloc (Nat.le_refl _) _
  have hsV : V.heap.size = w.heap.size + 1 := by rw [← hV]; simp
  have HBW : Hid (∀ x, Below B V x → Below B w x) := fun x hx => (bV.mono hB).trans hx
  have HX : Hid (∀ x : World, x.heap[w.heap.size]? = V.heap[w.heap.size]? → x.cell? ⟨w.heap.size, 0, none⟩ = some (.int .i64 2) ∧ x.cell? ⟨w.heap.size, 1, none⟩ = some (.int .i64 f) ∧ x.cell? ⟨w.heap.size, 2, none⟩ = some (.int .i64 n) ∧ x.cell? ⟨w.heap.size, 3, none⟩ = some (.int .i64 slot) ∧ x.cell? ⟨w.heap.size, 4, none⟩ = some (.int .i64 last) ∧ x.cell? ⟨w.heap.size, 5, none⟩ = some (.slice ao ds.length dc) ∧ x.cell? ⟨w.heap.size, 6, none⟩ = some (.int .i64 x6) ∧ x.cell? ⟨w.heap.size, 7, none⟩ = some (.int .i64 x7) ∧ x.cell? ⟨w.heap.size, 8, none⟩ = some (.int .i64 x8)) := fun x hx => by
    have c : ∀ o, x.cell? ⟨w.heap.size, o, none⟩ = V.cell? ⟨w.heap.size, o, none⟩ := fun o => World.cell?_of_block (w := V) hx
    refine ⟨?_, ?_, ?_, ?_, ?_, ?_, ?_, ?_, ?_⟩ <;> (rw [c, ← hV]; simp [go_sem])
  obtain ⟨gl, hhl⟩ : g < w.heap.size ∧ h < w.heap.size := ⟨J.fl.glt, J.fl.hlt⟩
  obtain ⟨rl1, rl2, rl3⟩ : hr < w.heap.size ∧ gp < w.heap.size ∧ gw < w.heap.size := by obtain ⟨_, _, _, _, H⟩ := J.rf; exact ⟨H.rlt.1, H.rlt.2.1, H.rlt.2.2.1⟩
  have HNT : Hid (¬ Two g h w.heap.size ∧ ¬ OnlyRf hr gp gw w.heap.size) := ⟨by show ¬ (w.heap.size = g ∨ w.heap.size = h); omega, by show ¬ (w.heap.size = hr ∨ w.heap.size = gp ∨ w.heap.size = gw); omega⟩
  have JX : Jt V.drew B g h cap hr gp gw cp cw S F := J.below bV.drew
  have HSV := hide hsV
  obtain ⟨c, hc⟩ : ∃ c, IntKind.i64.wrap (x7 + 1) = c := ⟨_, rfl⟩
  have hc1 : c ≤ 9223372036854775807 := by rw [← hc, IntKind.wrap_i64]; omega
  have HP1 : Hid (Calls Tryz.prog 17 #[P0 h, .int .i64 c, .int .i64 x8] (V.drew) fun e w' => e = .returned (.int .i64 (F.fuse c x8).1) ∧ IsFl w' g h cap (F.fuse c x8).2 ∧ Upd (Two g h) (V.drew).heap.size (V.drew) w') := fuse_all JX.fl c x8
  have HP2 : Hid (∀ w1, IsFl w1 g h cap (F.fuse c x8).2 → Upd (Two g h) (V.drew).heap.size (V.drew) w1 → Calls Tryz.prog 18 #[P0 hr, .int .i64 c, .int .i64 x8] w1 fun e w2 => e = .returned (.int .i64 (F.fuse c x8).1) ∧ Jt w2 B g h cap hr gp gw cp cw S (F.fuse c x8).2 ∧ Below B (V.drew) w2 ∧ ∀ b, b < (V.drew).heap.size → ¬ Two g h b → ¬ OnlyRf hr gp gw b → w2.heap[b]? = (V.drew).heap[b]?) := fun w1 i1 u1 => pair_doc JX i1 u1 _ _ (fun pb cb bv kp H hin hb => (rfuse_any H c x8 hc1).mono fun e w2 ⟨kp2, h1, h2, h3⟩ => ⟨h1, ⟨_, _, _, _, h2⟩, h3⟩)
  have HBX : Hid (∀ w1, Upd (Two g h) (V.drew).heap.size (V.drew) w1 → w1.heap[w.heap.size]? = V.heap[w.heap.size]?) := fun w1 u1 => u1.block w.heap.size (by show w.heap.size < V.heap.size; omega) (unhide HNT).1
  have HB2 : Hid (∀ w2, Below B (V.drew) w2 → Below B w w2) := fun w2 b => unhide HBW w2 ((Below.refl _ _).drew.trans b)
  have HS2 : Hid (w.heap.size < (V.drew).heap.size) := by show w.heap.size < V.heap.size; omega
  generalize (F.fuse c x8).1 = er at HP1 HP2
  generalize (F.fuse c x8).2 = F1 at HP1 HP2
  clear J JX bV hsV gl hhl rl1 rl2 rl3
  obtain ⟨q0, q1, q2, q3, q4, q5, q6, q7, q8⟩ := unhide HX V rfl
  go_enter Tryz.func7, Tryz.ntmps7
  go_wp2_with (first | rw [hV] | fail)
  refine wp_region_held_drew (S := fun x => x.cell? ⟨w.heap.size, 0, none⟩ = some (.int .i64 2) ∧ x.cell? ⟨w.heap.size, 1, none⟩ = some (.int .i64 f) ∧ x.cell? ⟨w.heap.size, 2, none⟩ = some (.int .i64 n) ∧ x.cell? ⟨w.heap.size, 3, none⟩ = some (.int .i64 slot) ∧ x.cell? ⟨w.heap.size, 4, none⟩ = some (.int .i64 last) ∧ x.cell? ⟨w.heap.size, 5, none⟩ = some (.slice ao ds.length dc) ∧ x.cell? ⟨w.heap.size, 6, none⟩ = some (.int .i64 x6) ∧ x.cell? ⟨w.heap.size, 7, none⟩ = some (.int .i64 x7) ∧ x.cell? ⟨w.heap.size, 8, none⟩ = some (.int .i64 x8)) (by kernel_rfl) (unhide HX V.drew rfl) (fun hHeld => ?_)
  refine wpAnyH_take (i := 0) (v := ?v13x0) rfl (by as_aux_lemma => kernel_rfl) (by as_aux_lemma => kernel_rfl) (by as_aux_lemma => kernel_rfl) (fun _ _ _ h => h) (Or.inl ⟨by rfl, ?hy13x0⟩) (by assumption) ?rest13x0
  case hy13x0 => intro w hSw; obtain ⟨r0, r1, r2, r3, r4, r5, r6, r7, r8⟩ := hSw; go_simp <;> with_reducible rfl
  simp only [Act.put, List.getElem_toArray, List.getElem_cons_zero, List.setIfInBounds_toArray, List.set_cons_zero, List.set_cons_succ]
  refine wpAnyH_take (i := 1) (v := ?v14x1) rfl (by as_aux_lemma => kernel_rfl) (by as_aux_lemma => kernel_rfl) (by as_aux_lemma => kernel_rfl) (fun _ _ _ h => h) (Or.inl ⟨by rfl, ?hy14x1⟩) (by assumption) ?rest14x1
  case hy14x1 => intro w hSw; obtain ⟨r0, r1, r2, r3, r4, r5, r6, r7, r8⟩ := hSw; go_simp <;> with_reducible rfl
  simp only [Act.put, List.getElem_toArray, List.getElem_cons_zero, List.getElem_cons_succ, List.setIfInBounds_toArray, List.set_cons_zero, List.set_cons_succ]
  refine wpAnyH_take (i := 2) (v := ?v15x2) rfl (by as_aux_lemma => kernel_rfl) (by as_aux_lemma => kernel_rfl) (by as_aux_lemma => kernel_rfl) (fun _ _ _ h => h) (Or.inl ⟨by rfl, ?hy15x2⟩) (by assumption) ?rest15x2
  case hy15x2 => intro w hSw; obtain ⟨r0, r1, r2, r3, r4, r5, r6, r7, r8⟩ := hSw; go_simp <;> with_reducible rfl
  simp only [Act.put, List.getElem_toArray, List.getElem_cons_zero, List.getElem_cons_succ, List.setIfInBounds_toArray, List.set_cons_zero, List.set_cons_succ]
  refine wpAnyH_take (i := 3) (v := (.int .i64 c)) rfl (by as_aux_lemma => kernel_rfl) (by as_aux_lemma => kernel_rfl) (by as_aux_lemma => kernel_rfl) (fun _ _ _ h => h) (Or.inl ⟨by rfl, ?hy16x3⟩) (by assumption) ?rest16x3
  case hy16x3 => intro w hSw; obtain ⟨r0, r1, r2, r3, r4, r5, r6, r7, r8⟩ := hSw; go_simp <;> with_reducible rfl
  simp only [Act.put, List.getElem_toArray, List.getElem_cons_zero, List.getElem_cons_succ, List.setIfInBounds_toArray, List.set_cons_zero, List.set_cons_succ]
  refine wpAnyH_take (i := 4) (v := ?v17x4) rfl (by as_aux_lemma => kernel_rfl) (by as_aux_lemma => kernel_rfl) (by as_aux_lemma => kernel_rfl) (fun _ _ _ h => h) (Or.inl ⟨by rfl, ?hy17x4⟩) (by assumption) ?rest17x4
  case hy17x4 => intro w hSw; obtain ⟨r0, r1, r2, r3, r4, r5, r6, r7, r8⟩ := hSw; go_simp <;> with_reducible rfl
  simp only [Act.put, List.getElem_toArray, List.getElem_cons_zero, List.getElem_cons_succ, List.setIfInBounds_toArray, List.set_cons_zero, List.set_cons_succ]
  refine wpAnyH_take (i := 5) (v := ?v18x5) rfl (by as_aux_lemma => kernel_rfl) (by as_aux_lemma => kernel_rfl) (by as_aux_lemma => kernel_rfl) (fun _ _ _ h => h) (Or.inl ⟨by rfl, ?hy18x5⟩) (by assumption) ?rest18x5
  case hy18x5 => intro w hSw; obtain ⟨r0, r1, r2, r3, r4, r5, r6, r7, r8⟩ := hSw; go_simp <;> with_reducible rfl
  simp only [Act.put, List.getElem_toArray, List.getElem_cons_zero, List.getElem_cons_succ, List.setIfInBounds_toArray, List.set_cons_zero, List.set_cons_succ]
  refine wpAnyH_take (i := 7) (v := ?v19x7) rfl (by as_aux_lemma => kernel_rfl) (by as_aux_lemma => kernel_rfl) (by as_aux_lemma => kernel_rfl) (fun _ _ _ h => h) (Or.inl ⟨by rfl, ?hy19x7⟩) (by assumption) ?rest19x7
  case hy19x7 => intro w hSw; obtain ⟨r0, r1, r2, r3, r4, r5, r6, r7, r8⟩ := hSw; go_simp <;> with_reducible rfl
  simp only [Act.put, List.getElem_toArray, List.getElem_cons_zero, List.getElem_cons_succ, List.setIfInBounds_toArray, List.set_cons_zero, List.set_cons_succ]
  refine wpAnyH_take (i := 8) (v := ?v20x8) rfl (by as_aux_lemma => kernel_rfl) (by as_aux_lemma => kernel_rfl) (by as_aux_lemma => kernel_rfl) (fun _ _ _ h => h) (Or.inl ⟨by rfl, ?hy20x8⟩) (by assumption) ?rest20x8
  case hy20x8 => intro w hSw; obtain ⟨r0, r1, r2, r3, r4, r5, r6, r7, r8⟩ := hSw; go_simp <;> with_reducible rfl
  simp only [Act.put, List.getElem_toArray, List.getElem_cons_zero, List.getElem_cons_succ, List.setIfInBounds_toArray, List.set_cons_zero, List.set_cons_succ]
  refine wpAnyH_take (i := 9) (v := ?v21x9) rfl (by as_aux_lemma => kernel_rfl) (by as_aux_lemma => kernel_rfl) (by as_aux_lemma => kernel_rfl) (fun _ _ _ h => h) (Or.inl ⟨by rfl, ?hy21x9⟩) (by assumption) ?rest21x9
  case hy21x9 => intro w hSw; obtain ⟨r0, r1, r2, r3, r4, r5, r6, r7, r8⟩ := hSw; go_simp <;> with_reducible rfl
  simp only [Act.put, List.getElem_toArray, List.getElem_cons_zero, List.getElem_cons_succ, List.setIfInBounds_toArray, List.set_cons_zero, List.set_cons_succ]
  refine wpAnyH_take (i := 10) (v := (.int .i64 c)) rfl (by as_aux_lemma => kernel_rfl) (by as_aux_lemma => kernel_rfl) (by as_aux_lemma => kernel_rfl) (fun _ _ _ h => h) (Or.inl ⟨by rfl, ?hy22x10⟩) (by assumption) ?rest22x10
  case hy22x10 => intro w hSw; obtain ⟨r0, r1, r2, r3, r4, r5, r6, r7, r8⟩ := hSw; go_simp <;> with_reducible rfl
  simp only [Act.put, List.getElem_toArray, List.getElem_cons_zero, List.getElem_cons_succ, List.setIfInBounds_toArray, List.set_cons_zero, List.set_cons_succ]
  refine wpAnyH_take (i := 11) (v := ?v23x11) rfl (by as_aux_lemma => kernel_rfl) (by as_aux_lemma => kernel_rfl) (by as_aux_lemma => kernel_rfl) (fun _ _ _ h => h) (Or.inl ⟨by rfl, ?hy23x11⟩) (by assumption) ?rest23x11
  case hy23x11 => intro w hSw; obtain ⟨r0, r1, r2, r3, r4, r5, r6, r7, r8⟩ := hSw; go_simp <;> with_reducible rfl
  simp only [Act.put, List.getElem_toArray, List.getElem_cons_zero, List.getElem_cons_succ, List.setIfInBounds_toArray, List.set_cons_zero, List.set_cons_succ]
  refine wpAnyH_take (i := 12) (v := ?v24x12) rfl (by as_aux_lemma => kernel_rfl) (by as_aux_lemma => kernel_rfl) (by as_aux_lemma => kernel_rfl) (fun _ _ _ h => h) (Or.inl ⟨by rfl, ?hy24x12⟩) (by assumption) ?rest24x12
  case hy24x12 => intro w hSw; obtain ⟨r0, r1, r2, r3, r4, r5, r6, r7, r8⟩ := hSw; go_simp <;> with_reducible rfl
  simp only [Act.put, List.getElem_toArray, List.getElem_cons_zero, List.getElem_cons_succ, List.setIfInBounds_toArray, List.set_cons_zero, List.set_cons_succ]
  refine wpAnyH_ready (rs := [6]) (by as_aux_lemma => kernel_rfl) (by simp) ?_
  refine AllReadyH.cons rfl (fun K hK => ?_) AllReadyH.nil
  go_simp
  refine (unhide HP1).mono ?_
  rintro e w1 ⟨rfl, i1, u1⟩
  refine hK _ _ (unhide HX w1 (unhide HBX w1 u1)) ?_
  clear hK hHeld
  have HC2 := hide (unhide HP2 w1 i1 u1)
  clear i1 u1
  intro hHeld
  refine wpAnyH_ready (rs := [13]) (by as_aux_lemma => kernel_rfl) (by simp) ?_
  refine AllReadyH.cons rfl (fun K hK => ?_) AllReadyH.nil
  go_simp
  refine (unhide HC2).mono ?_
  rintro e w2 ⟨rfl, j2, b2, k2⟩
  refine hK _ _ (unhide HX w2 (k2 _ (unhide HS2) (unhide HNT).1 (unhide HNT).2)) ?_
  clear hK hHeld
  have HJ2 := hide j2
  have HBF := hide (unhide HB2 w2 b2)
  clear j2 b2 k2
  intro hHeld
  refine wpAnyH_take (i := 14) (v := (.bool true)) rfl (by as_aux_lemma => kernel_rfl) (by as_aux_lemma => kernel_rfl) (by as_aux_lemma => kernel_rfl) (fun _ _ _ h => h) (Or.inl ⟨by rfl, ?hy25x14⟩) (by assumption) ?rest25x14
  case hy25x14 => intro w hSw; obtain ⟨r0, r1, r2, r3, r4, r5, r6, r7, r8⟩ := hSw; go_simp <;> with_reducible rfl
  simp only [Act.put, List.getElem_toArray, List.getElem_cons_zero, List.getElem_cons_succ, List.setIfInBounds_toArray, List.set_cons_zero, List.set_cons_succ]
  refine wpAnyH_take (i := 15) (v := ?v26x15) rfl (by as_aux_lemma => kernel_rfl) (by as_aux_lemma => kernel_rfl) (by as_aux_lemma => kernel_rfl) (fun _ _ _ h => h) (Or.inl ⟨by rfl, ?hy26x15⟩) (by assumption) ?rest26x15
  case hy26x15 => intro w hSw; obtain ⟨r0, r1, r2, r3, r4, r5, r6, r7, r8⟩ := hSw; go_simp <;> with_reducible rfl
  simp only [Act.put, List.getElem_toArray, List.getElem_cons_zero, List.getElem_cons_succ, List.setIfInBounds_toArray, List.set_cons_zero, List.set_cons_succ]
  refine wpAnyH_done (by as_aux_lemma => kernel_rfl) ?_ _
  go_wp2
  go_ret
  exact ⟨rfl, _, unhide HJ2, unhide HBF⟩

set_option maxHeartbeats 1600000 in
theorem st_erase (J : Jt w B g h cap hr gp gw cp cw S F) (hB : B ≤ w.heap.size) (f n slot last x6 x7 x8 : Int) (ao : Option Addr) (dc : Nat) (ds : List Int) :
    Calls Tryz.prog 7 #[P0 h, P0 hr, .agg #[.int .i64 5, .int .i64 f, .int .i64 n, .int .i64 slot, .int .i64 last, .slice ao ds.length dc, .int .i64 x6, .int .i64 x7, .int .i64 x8]] w (Stp B g h cap hr gp gw cp cw S w) := by
  obtain ⟨V, hV⟩ : ∃ V, w.alloc (.cells #[.int .i64 5, .int .i64 f, .int .i64 n, .int .i64 slot, .int .i64 last, .slice ao ds.length dc, .int .i64 x6, .int .i64 x7, .int .i64 x8] 37) = V := ⟨_, rfl⟩
  have bV : Below w.heap.size w V := hV ▸ (Below.refl _ _).alloc (Nat.le_refl _) _
  have hsV : V.heap.size = w.heap.size + 1 := by rw [← hV]; simp
  have HBW : Hid (∀ x, Below B V x → Below B w x) := fun x hx => (bV.mono hB).trans hx
  have HX : Hid (∀ x : World, x.heap[w.heap.size]? = V.heap[w.heap.size]? → x.cell? ⟨w.heap.size, 0, none⟩ = some (.int .i64 5) ∧ x.cell? ⟨w.heap.size, 1, none⟩ = some (.int .i64 f) ∧ x.cell? ⟨w.heap.size, 2, none⟩ = some (.int .i64 n) ∧ x.cell? ⟨w.heap.size, 3, none⟩ = some (.int .i64 slot) ∧ x.cell? ⟨w.heap.size, 4, none⟩ = some (.int .i64 last) ∧ x.cell? ⟨w.heap.size, 5, none⟩ = some (.slice ao ds.length dc) ∧ x.cell? ⟨w.heap.size, 6, none⟩ = some (.int .i64 x6) ∧ x.cell? ⟨w.heap.size, 7, none⟩ = some (.int .i64 x7) ∧ x.cell? ⟨w.heap.size, 8, none⟩ = some (.int .i64 x8)) := fun x hx => by
    have c : ∀ o, x.cell? ⟨w.heap.size, o, none⟩ = V.cell? ⟨w.heap.size, o, none⟩ := fun o => World.cell?_of_block (w := V) hx
    refine ⟨?_, ?_, ?_, ?_, ?_, ?_, ?_, ?_, ?_⟩ <;> (rw [c, ← hV]; simp [go_sem])
  obtain ⟨gl, hhl⟩ : g < w.heap.size ∧ h < w.heap.size := ⟨J.fl.glt, J.fl.hlt⟩
  obtain ⟨rl1, rl2, rl3⟩ : hr < w.heap.size ∧ gp < w.heap.size ∧ gw < w.heap.size := by obtain ⟨_, _, _, _, H⟩ := J.rf; exact ⟨H.rlt.1, H.rlt.2.1, H.rlt.2.2.1⟩
  have HNT : Hid (¬ Two g h w.heap.size ∧ ¬ OnlyRf hr gp gw w.heap.size) := ⟨by show ¬ (w.heap.size = g ∨ w.heap.size = h); omega, by show ¬ (w.heap.size = hr ∨ w.heap.size = gp ∨ w.heap.size = gw); omega⟩
  have JX : Jt V.drew B g h cap hr gp gw cp cw S F := J.below bV.drew
  have HSV := hide hsV
  have HP1 : Hid (Calls Tryz.prog 23 #[P0 h, .int .i64 x6] (V.drew) fun e w' => e = .returned (.int .i64 (F.erase x6).1) ∧ IsFl w' g h cap (F.erase x6).2 ∧ Upd (Two g h) (V.drew).heap.size (V.drew) w') := erase_all JX.fl JX.cnt.1 JX.cnt.2 x6
  have HP2 : Hid (∀ w1, IsFl w1 g h cap (F.erase x6).2 → Upd (Two g h) (V.drew).heap.size (V.drew) w1 → Calls Tryz.prog 24 #[P0 hr, .int .i64 x6] w1 fun e w2 => e = .returned (.int .i64 (F.erase x6).1) ∧ Jt w2 B g h cap hr gp gw cp cw S (F.erase x6).2 ∧ Below B (V.drew) w2 ∧ ∀ b, b < (V.drew).heap.size → ¬ Two g h b → ¬ OnlyRf hr gp gw b → w2.heap[b]? = (V.drew).heap[b]?) := fun w1 i1 u1 => pair_doc JX i1 u1 _ _ (fun pb cb bv kp H hin hb => rerase_all H hin x6)
  have HBX : Hid (∀ w1, Upd (Two g h) (V.drew).heap.size (V.drew) w1 → w1.heap[w.heap.size]? = V.heap[w.heap.size]?) := fun w1 u1 => u1.block w.heap.size (by show w.heap.size < V.heap.size; omega) (unhide HNT).1
  have HB2 : Hid (∀ w2, Below B (V.drew) w2 → Below B w w2) := fun w2 b => unhide HBW w2 ((Below.refl _ _).drew.trans b)
  have HS2 : Hid (w.heap.size < (V.drew).heap.size) := by show w.heap.size < V.heap.size; omega
  generalize (F.erase x6).1 = er at HP1 HP2
  generalize (F.erase x6).2 = F1 at HP1 HP2
  clear J JX bV hsV gl hhl rl1 rl2 rl3
  obtain ⟨q0, q1, q2, q3, q4, q5, q6, q7, q8⟩ := unhide HX V rfl
  go_enter Tryz.func7, Tryz.ntmps7
  go_wp2_with (first | rw [hV] | fail)
  refine wp_region_held_drew (S := fun x => x.cell? ⟨w.heap.size, 0, none⟩ = some (.int .i64 5) ∧ x.cell? ⟨w.heap.size, 1, none⟩ = some (.int .i64 f) ∧ x.cell? ⟨w.heap.size, 2, none⟩ = some (.int .i64 n) ∧ x.cell? ⟨w.heap.size, 3, none⟩ = some (.int .i64 slot) ∧ x.cell? ⟨w.heap.size, 4, none⟩ = some (.int .i64 last) ∧ x.cell? ⟨w.heap.size, 5, none⟩ = some (.slice ao ds.length dc) ∧ x.cell? ⟨w.heap.size, 6, none⟩ = some (.int .i64 x6) ∧ x.cell? ⟨w.heap.size, 7, none⟩ = some (.int .i64 x7) ∧ x.cell? ⟨w.heap.size, 8, none⟩ = some (.int .i64 x8)) (by kernel_rfl) (unhide HX V.drew rfl) (fun hHeld => ?_)
  refine wpAnyH_take (i := 0) (v := ?v27x0) rfl (by as_aux_lemma => kernel_rfl) (by as_aux_lemma => kernel_rfl) (by as_aux_lemma => kernel_rfl) (fun _ _ _ h => h) (Or.inl ⟨by rfl, ?hy27x0⟩) (by assumption) ?rest27x0
  case hy27x0 => intro w hSw; obtain ⟨r0, r1, r2, r3, r4, r5, r6, r7, r8⟩ := hSw; go_simp <;> with_reducible rfl
  simp only [Act.put, List.getElem_toArray, List.getElem_cons_zero, List.setIfInBounds_toArray, List.set_cons_zero, List.set_cons_succ]
  refine wpAnyH_take (i := 1) (v := ?v28x1) rfl (by as_aux_lemma => kernel_rfl) (by as_aux_lemma => kernel_rfl) (by as_aux_lemma => kernel_rfl) (fun _ _ _ h => h) (Or.inl ⟨by rfl, ?hy28x1⟩) (by assumption) ?rest28x1
  case hy28x1 => intro w hSw; obtain ⟨r0, r1, r2, r3, r4, r5, r6, r7, r8⟩ := hSw; go_simp <;> with_reducible rfl
  simp only [Act.put, List.getElem_toArray, List.getElem_cons_zero, List.getElem_cons_succ, List.setIfInBounds_toArray, List.set_cons_zero, List.set_cons_succ]
  refine wpAnyH_take (i := 2) (v := ?v29x2) rfl (by as_aux_lemma => kernel_rfl) (by as_aux_lemma => kernel_rfl) (by as_aux_lemma => kernel_rfl) (fun _ _ _ h => h) (Or.inl ⟨by rfl, ?hy29x2⟩) (by assumption) ?rest29x2
  case hy29x2 => intro w hSw; obtain ⟨r0, r1, r2, r3, r4, r5, r6, r7, r8⟩ := hSw; go_simp <;> with_reducible rfl
  simp only [Act.put, List.getElem_toArray, List.getElem_cons_zero, List.getElem_cons_succ, List.setIfInBounds_toArray, List.set_cons_zero, List.set_cons_succ]
  refine wpAnyH_take (i := 4) (v := ?v30x4) rfl (by as_aux_lemma => kernel_rfl) (by as_aux_lemma => kernel_rfl) (by as_aux_lemma => kernel_rfl) (fun _ _ _ h => h) (Or.inl ⟨by rfl, ?hy30x4⟩) (by assumption) ?rest30x4
  case hy30x4 => intro w hSw; obtain ⟨r0, r1, r2, r3, r4, r5, r6, r7, r8⟩ := hSw; go_simp <;> with_reducible rfl
  simp only [Act.put, List.getElem_toArray, List.getElem_cons_zero, List.getElem_cons_succ, List.setIfInBounds_toArray, List.set_cons_zero, List.set_cons_succ]
  refine wpAnyH_take (i := 5) (v := ?v31x5) rfl (by as_aux_lemma => kernel_rfl) (by as_aux_lemma => kernel_rfl) (by as_aux_lemma => kernel_rfl) (fun _ _ _ h => h) (Or.inl ⟨by rfl, ?hy31x5⟩) (by assumption) ?rest31x5
  case hy31x5 => intro w hSw; obtain ⟨r0, r1, r2, r3, r4, r5, r6, r7, r8⟩ := hSw; go_simp <;> with_reducible rfl
  simp only [Act.put, List.getElem_toArray, List.getElem_cons_zero, List.getElem_cons_succ, List.setIfInBounds_toArray, List.set_cons_zero, List.set_cons_succ]
  refine wpAnyH_take (i := 6) (v := ?v32x6) rfl (by as_aux_lemma => kernel_rfl) (by as_aux_lemma => kernel_rfl) (by as_aux_lemma => kernel_rfl) (fun _ _ _ h => h) (Or.inl ⟨by rfl, ?hy32x6⟩) (by assumption) ?rest32x6
  case hy32x6 => intro w hSw; obtain ⟨r0, r1, r2, r3, r4, r5, r6, r7, r8⟩ := hSw; go_simp <;> with_reducible rfl
  simp only [Act.put, List.getElem_toArray, List.getElem_cons_zero, List.getElem_cons_succ, List.setIfInBounds_toArray, List.set_cons_zero, List.set_cons_succ]
  refine wpAnyH_ready (rs := [3]) (by as_aux_lemma => kernel_rfl) (by simp) ?_
  refine AllReadyH.cons rfl (fun K hK => ?_) AllReadyH.nil
  go_simp
  refine (unhide HP1).mono ?_
  rintro e w1 ⟨rfl, i1, u1⟩
  refine hK _ _ (unhide HX w1 (unhide HBX w1 u1)) ?_
  clear hK hHeld
  have HC2 := hide (unhide HP2 w1 i1 u1)
  clear i1 u1
  intro hHeld
  refine wpAnyH_ready (rs := [7]) (by as_aux_lemma => kernel_rfl) (by simp) ?_
  refine AllReadyH.cons rfl (fun K hK => ?_) AllReadyH.nil
  go_simp
  refine (unhide HC2).mono ?_
  rintro e w2 ⟨rfl, j2, b2, k2⟩
  refine hK _ _ (unhide HX w2 (k2 _ (unhide HS2) (unhide HNT).1 (unhide HNT).2)) ?_
  clear hK hHeld
  have HJ2 := hide j2
  have HBF := hide (unhide HB2 w2 b2)
  clear j2 b2 k2
  intro hHeld
  refine wpAnyH_take (i := 8) (v := (.bool true)) rfl (by as_aux_lemma => kernel_rfl) (by as_aux_lemma => kernel_rfl) (by as_aux_lemma => kernel_rfl) (fun _ _ _ h => h) (Or.inl ⟨by rfl, ?hy33x8⟩) (by assumption) ?rest33x8
  case hy33x8 => intro w hSw; obtain ⟨r0, r1, r2, r3, r4, r5, r6, r7, r8⟩ := hSw; go_simp <;> with_reducible rfl
  simp only [Act.put, List.getElem_toArray, List.getElem_cons_zero, List.getElem_cons_succ, List.setIfInBounds_toArray, List.set_cons_zero, List.set_cons_succ]
  refine wpAnyH_take (i := 9) (v := ?v34x9) rfl (by as_aux_lemma => kernel_rfl) (by as_aux_lemma => kernel_rfl) (by as_aux_lemma => kernel_rfl) (fun _ _ _ h => h) (Or.inl ⟨by rfl, ?hy34x9⟩) (by assumption) ?rest34x9
  case hy34x9 => intro w hSw; obtain ⟨r0, r1, r2, r3, r4, r5, r6, r7, r8⟩ := hSw; go_simp <;> with_reducible rfl
  simp only [Act.put, List.getElem_toArray, List.getElem_cons_zero, List.getElem_cons_succ, List.setIfInBounds_toArray, List.set_cons_zero, List.set_cons_succ]
  refine wpAnyH_done (by as_aux_lemma => kernel_rfl) ?_ _
  go_wp2
  go_ret
  exact ⟨rfl, _, unhide HJ2, unhide HBF⟩

set_option maxHeartbeats 1600000 in
theorem st_prog (J : Jt w B g h cap hr gp gw cp cw S F) (hB : B ≤ w.heap.size) (f n slot last x6 x7 x8 : Int) (ao : Option Addr) (dc : Nat) (ds : List Int) (hd : Sees w .u8 (.slice ao ds.length dc) ds) (hdB : ∀ p, ao = some p → p.block < B ∨ ds = []) (hby : Byt ds) :
    Calls Tryz.prog 7 #[P0 h, P0 hr, .agg #[.int .i64 6, .int .i64 f, .int .i64 n, .int .i64 slot, .int .i64 last, .slice ao ds.length dc, .int .i64 x6, .int .i64 x7, .int .i64 x8]] w (Stp B g h cap hr gp gw cp cw S w) := by
  obtain ⟨V, hV⟩ : ∃ V, w.alloc (.cells #[.int .i64 6, .int .i64 f, .int .i64 n, .int .i64 slot, .int .i64 last, .slice ao ds.length dc, .int .i64 x6, .int .i64 x7, .int .i64 x8] 37) = V := ⟨_, rfl⟩
  have bV : Below w.heap.size w V := hV ▸ (Below.refl _ _).alloc (Nat.le_refl _) _
  have hsV : V.heap.size = w.heap.size + 1 := by rw [← hV]; simp
  have HBW : Hid (∀ x, Below B V x → Below B w x) := fun x hx => (bV.mono hB).trans hx
  have HX : Hid (∀ x : World, x.heap[w.heap.size]? = V.heap[w.heap.size]? → x.cell? ⟨w.heap.size, 0, none⟩ = some (.int .i64 6) ∧ x.cell? ⟨w.heap.size, 1, none⟩ = some (.int .i64 f) ∧ x.cell? ⟨w.heap.size, 2, none⟩ = some (.int .i64 n) ∧ x.cell? ⟨w.heap.size, 3, none⟩ = some (.int .i64 slot) ∧ x.cell? ⟨w.heap.size, 4, none⟩ = some (.int .i64 last) ∧ x.cell? ⟨w.heap.size, 5, none⟩ = some (.slice ao ds.length dc) ∧ x.cell? ⟨w.heap.size, 6, none⟩ = some (.int .i64 x6) ∧ x.cell? ⟨w.heap.size, 7, none⟩ = some (.int .i64 x7) ∧ x.cell? ⟨w.heap.size, 8, none⟩ = some (.int .i64 x8)) := fun x hx => by
    have c : ∀ o, x.cell? ⟨w.heap.size, o, none⟩ = V.cell? ⟨w.heap.size, o, none⟩ := fun o => World.cell?_of_block (w := V) hx
    refine ⟨?_, ?_, ?_, ?_, ?_, ?_, ?_, ?_, ?_⟩ <;> (rw [c, ← hV]; simp [go_sem])
  obtain ⟨gl, hhl⟩ : g < w.heap.size ∧ h < w.heap.size := ⟨J.fl.glt, J.fl.hlt⟩
  obtain ⟨rl1, rl2, rl3⟩ : hr < w.heap.size ∧ gp < w.heap.size ∧ gw < w.heap.size := by obtain ⟨_, _, _, _, H⟩ := J.rf; exact ⟨H.rlt.1, H.rlt.2.1, H.rlt.2.2.1⟩
  have HNT : Hid (¬ Two g h w.heap.size ∧ ¬ OnlyRf hr gp gw w.heap.size) := ⟨by show ¬ (w.heap.size = g ∨ w.heap.size = h); omega, by show ¬ (w.heap.size = hr ∨ w.heap.size = gp ∨ w.heap.size = gw); omega⟩
  have JX : Jt V.drew B g h cap hr gp gw cp cw S F := J.below bV.drew
  have HSV := hide hsV
  have HSE : Hid (∀ x, Below B w x → Sees x .u8 (.slice ao ds.length dc) ds) := fun x hx => by
    obtain ⟨ao', c', e, s1, s2, s3⟩ := hd
    simp only [Value.slice.injEq, true_and] at e
    obtain ⟨rfl, rfl⟩ := e
    refine ⟨_, _, rfl, s1, s2, fun a ha t ht => ?_⟩
    rcases hdB a ha with h1 | h1
    · have hb : (a.add t).block = a.block := by unfold Addr.add; split <;> rfl
      rw [hx.cell (p := a.add t) (by rw [hb]; exact h1)]
      exact s3 a ha t ht
    · subst h1; simp at ht
  have hbX : Below B w V.drew := (bV.drew).mono hB
  have HP1 : Hid (Calls Tryz.prog 25 #[P0 h, .int .i64 x6, .int .i64 x7, .slice ao ds.length dc] (V.drew) fun e w' => e = .returned (.int .i64 (F.prog x6 x7 ds).1) ∧ IsFl w' g h cap (F.prog x6 x7 ds).2 ∧ Upd (Two g h) (V.drew).heap.size (V.drew) w') := prog_all JX.fl JX.cnt.1 JX.cnt.2 x6 x7 _ ds (unhide HSE _ hbX) hby
  have HP2 : Hid (∀ w1, IsFl w1 g h cap (F.prog x6 x7 ds).2 → Upd (Two g h) (V.drew).heap.size (V.drew) w1 → Calls Tryz.prog 26 #[P0 hr, .int .i64 x6, .int .i64 x7, .slice ao ds.length dc] w1 fun e w2 => e = .returned (.int .i64 (F.prog x6 x7 ds).1) ∧ Jt w2 B g h cap hr gp gw cp cw S (F.prog x6 x7 ds).2 ∧ Below B (V.drew) w2 ∧ ∀ b, b < (V.drew).heap.size → ¬ Two g h b → ¬ OnlyRf hr gp gw b → w2.heap[b]? = (V.drew).heap[b]?) := fun w1 i1 u1 => pair_doc JX i1 u1 _ _ (fun pb cb bv kp H hin hb => rprog_all H hin x6 x7 _ ds (unhide HSE _ (hbX.trans hb)) (fun a l c e hne => by simp only [Value.slice.injEq] at e; exact JX.apart a.block (JX.low _ ((hdB a e.1).resolve_right hne))) hby)
  have HBX : Hid (∀ w1, Upd (Two g h) (V.drew).heap.size (V.drew) w1 → w1.heap[w.heap.size]? = V.heap[w.heap.size]?) := fun w1 u1 => u1.block w.heap.size (by show w.heap.size < V.heap.size; omega) (unhide HNT).1
  have HB2 : Hid (∀ w2, Below B (V.drew) w2 → Below B w w2) := fun w2 b => unhide HBW w2 ((Below.refl _ _).drew.trans b)
  have HS2 : Hid (w.heap.size < (V.drew).heap.size) := by show w.heap.size < V.heap.size; omega
  generalize (F.prog x6 x7 ds).1 = er at HP1 HP2
  generalize (F.prog x6 x7 ds).2 = F1 at HP1 HP2
  clear J JX bV hsV gl hhl rl1 rl2 rl3
  obtain ⟨q0, q1, q2, q3, q4, q5, q6, q7, q8⟩ := unhide HX V rfl
  go_enter Tryz.func7, Tryz.ntmps7
  go_wp2_with (first | rw [hV] | fail)
  refine wp_region_held_drew (S := fun x => x.cell? ⟨w.heap.size, 0, none⟩ = some (.int .i64 6) ∧ x.cell? ⟨w.heap.size, 1, none⟩ = some (.int .i64 f) ∧ x.cell? ⟨w.heap.size, 2, none⟩ = some (.int .i64 n) ∧ x.cell? ⟨w.heap.size, 3, none⟩ = some (.int .i64 slot) ∧ x.cell? ⟨w.heap.size, 4, none⟩ = some (.int .i64 last) ∧ x.cell? ⟨w.heap.size, 5, none⟩ = some (.slice ao ds.length dc) ∧ x.cell? ⟨w.heap.size, 6, none⟩ = some (.int .i64 x6) ∧ x.cell? ⟨w.heap.size, 7, none⟩ = some (.int .i64 x7) ∧ x.cell? ⟨w.heap.size, 8, none⟩ = some (.int .i64 x8)) (by kernel_rfl) (unhide HX V.drew rfl) (fun hHeld => ?_)
  refine wpAnyH_take (i := 0) (v := ?v35x0) rfl (by as_aux_lemma => kernel_rfl) (by as_aux_lemma => kernel_rfl) (by as_aux_lemma => kernel_rfl) (fun _ _ _ h => h) (Or.inl ⟨by rfl, ?hy35x0⟩) (by assumption) ?rest35x0
  case hy35x0 => intro w hSw; obtain ⟨r0, r1, r2, r3, r4, r5, r6, r7, r8⟩ := hSw; go_simp <;> with_reducible rfl
  simp only [Act.put, List.getElem_toArray, List.getElem_cons_zero, List.setIfInBounds_toArray, List.set_cons_zero, List.set_cons_succ]
  refine wpAnyH_take (i := 1) (v := ?v36x1) rfl (by as_aux_lemma => kernel_rfl) (by as_aux_lemma => kernel_rfl) (by as_aux_lemma => kernel_rfl) (fun _ _ _ h => h) (Or.inl ⟨by rfl, ?hy36x1⟩) (by assumption) ?rest36x1
  case hy36x1 => intro w hSw; obtain ⟨r0, r1, r2, r3, r4, r5, r6, r7, r8⟩ := hSw; go_simp <;> with_reducible rfl
  simp only [Act.put, List.getElem_toArray, List.getElem_cons_zero, List.getElem_cons_succ, List.setIfInBounds_toArray, List.set_cons_zero, List.set_cons_succ]
  refine wpAnyH_take (i := 2) (v := ?v37x2) rfl (by as_aux_lemma => kernel_rfl) (by as_aux_lemma => kernel_rfl) (by as_aux_lemma => kernel_rfl) (fun _ _ _ h => h) (Or.inl ⟨by rfl, ?hy37x2⟩) (by assumption) ?rest37x2
  case hy37x2 => intro w hSw; obtain ⟨r0, r1, r2, r3, r4, r5, r6, r7, r8⟩ := hSw; go_simp <;> with_reducible rfl
  simp only [Act.put, List.getElem_toArray, List.getElem_cons_zero, List.getElem_cons_succ, List.setIfInBounds_toArray, List.set_cons_zero, List.set_cons_succ]
  refine wpAnyH_take (i := 3) (v := ?v38x3) rfl (by as_aux_lemma => kernel_rfl) (by as_aux_lemma => kernel_rfl) (by as_aux_lemma => kernel_rfl) (fun _ _ _ h => h) (Or.inl ⟨by rfl, ?hy38x3⟩) (by assumption) ?rest38x3
  case hy38x3 => intro w hSw; obtain ⟨r0, r1, r2, r3, r4, r5, r6, r7, r8⟩ := hSw; go_simp <;> with_reducible rfl
  simp only [Act.put, List.getElem_toArray, List.getElem_cons_zero, List.getElem_cons_succ, List.setIfInBounds_toArray, List.set_cons_zero, List.set_cons_succ]
  refine wpAnyH_take (i := 4) (v := ?v39x4) rfl (by as_aux_lemma => kernel_rfl) (by as_aux_lemma => kernel_rfl) (by as_aux_lemma => kernel_rfl) (fun _ _ _ h => h) (Or.inl ⟨by rfl, ?hy39x4⟩) (by assumption) ?rest39x4
  case hy39x4 => intro w hSw; obtain ⟨r0, r1, r2, r3, r4, r5, r6, r7, r8⟩ := hSw; go_simp <;> with_reducible rfl
  simp only [Act.put, List.getElem_toArray, List.getElem_cons_zero, List.getElem_cons_succ, List.setIfInBounds_toArray, List.set_cons_zero, List.set_cons_succ]
  refine wpAnyH_take (i := 5) (v := ?v40x5) rfl (by as_aux_lemma => kernel_rfl) (by as_aux_lemma => kernel_rfl) (by as_aux_lemma => kernel_rfl) (fun _ _ _ h => h) (Or.inl ⟨by rfl, ?hy40x5⟩) (by assumption) ?rest40x5
  case hy40x5 => intro w hSw; obtain ⟨r0, r1, r2, r3, r4, r5, r6, r7, r8⟩ := hSw; go_simp <;> with_reducible rfl
  simp only [Act.put, List.getElem_toArray, List.getElem_cons_zero, List.getElem_cons_succ, List.setIfInBounds_toArray, List.set_cons_zero, List.set_cons_succ]
  refine wpAnyH_take (i := 6) (v := ?v41x6) rfl (by as_aux_lemma => kernel_rfl) (by as_aux_lemma => kernel_rfl) (by as_aux_lemma => kernel_rfl) (fun _ _ _ h => h) (Or.inl ⟨by rfl, ?hy41x6⟩) (by assumption) ?rest41x6
  case hy41x6 => intro w hSw; obtain ⟨r0, r1, r2, r3, r4, r5, r6, r7, r8⟩ := hSw; go_simp <;> with_reducible rfl
  simp only [Act.put, List.getElem_toArray, List.getElem_cons_zero, List.getElem_cons_succ, List.setIfInBounds_toArray, List.set_cons_zero, List.set_cons_succ]
  refine wpAnyH_take (i := 7) (v := ?v42x7) rfl (by as_aux_lemma => kernel_rfl) (by as_aux_lemma => kernel_rfl) (by as_aux_lemma => kernel_rfl) (fun _ _ _ h => h) (Or.inl ⟨by rfl, ?hy42x7⟩) (by assumption) ?rest42x7
  case hy42x7 => intro w hSw; obtain ⟨r0, r1, r2, r3, r4, r5, r6, r7, r8⟩ := hSw; go_simp <;> with_reducible rfl
  simp only [Act.put, List.getElem_toArray, List.getElem_cons_zero, List.getElem_cons_succ, List.setIfInBounds_toArray, List.set_cons_zero, List.set_cons_succ]
  refine wpAnyH_take (i := 9) (v := ?v43x9) rfl (by as_aux_lemma => kernel_rfl) (by as_aux_lemma => kernel_rfl) (by as_aux_lemma => kernel_rfl) (fun _ _ _ h => h) (Or.inl ⟨by rfl, ?hy43x9⟩) (by assumption) ?rest43x9
  case hy43x9 => intro w hSw; obtain ⟨r0, r1, r2, r3, r4, r5, r6, r7, r8⟩ := hSw; go_simp <;> with_reducible rfl
  simp only [Act.put, List.getElem_toArray, List.getElem_cons_zero, List.getElem_cons_succ, List.setIfInBounds_toArray, List.set_cons_zero, List.set_cons_succ]
  refine wpAnyH_take (i := 10) (v := ?v44x10) rfl (by as_aux_lemma => kernel_rfl) (by as_aux_lemma => kernel_rfl) (by as_aux_lemma => kernel_rfl) (fun _ _ _ h => h) (Or.inl ⟨by rfl, ?hy44x10⟩) (by assumption) ?rest44x10
  case hy44x10 => intro w hSw; obtain ⟨r0, r1, r2, r3, r4, r5, r6, r7, r8⟩ := hSw; go_simp <;> with_reducible rfl
  simp only [Act.put, List.getElem_toArray, List.getElem_cons_zero, List.getElem_cons_succ, List.setIfInBounds_toArray, List.set_cons_zero, List.set_cons_succ]
  refine wpAnyH_take (i := 11) (v := ?v45x11) rfl (by as_aux_lemma => kernel_rfl) (by as_aux_lemma => kernel_rfl) (by as_aux_lemma => kernel_rfl) (fun _ _ _ h => h) (Or.inl ⟨by rfl, ?hy45x11⟩) (by assumption) ?rest45x11
  case hy45x11 => intro w hSw; obtain ⟨r0, r1, r2, r3, r4, r5, r6, r7, r8⟩ := hSw; go_simp <;> with_reducible rfl
  simp only [Act.put, List.getElem_toArray, List.getElem_cons_zero, List.getElem_cons_succ, List.setIfInBounds_toArray, List.set_cons_zero, List.set_cons_succ]
  refine wpAnyH_take (i := 12) (v := ?v46x12) rfl (by as_aux_lemma => kernel_rfl) (by as_aux_lemma => kernel_rfl) (by as_aux_lemma => kernel_rfl) (fun _ _ _ h => h) (Or.inl ⟨by rfl, ?hy46x12⟩) (by assumption) ?rest46x12
  case hy46x12 => intro w hSw; obtain ⟨r0, r1, r2, r3, r4, r5, r6, r7, r8⟩ := hSw; go_simp <;> with_reducible rfl
  simp only [Act.put, List.getElem_toArray, List.getElem_cons_zero, List.getElem_cons_succ, List.setIfInBounds_toArray, List.set_cons_zero, List.set_cons_succ]
  refine wpAnyH_take (i := 13) (v := ?v47x13) rfl (by as_aux_lemma => kernel_rfl) (by as_aux_lemma => kernel_rfl) (by as_aux_lemma => kernel_rfl) (fun _ _ _ h => h) (Or.inl ⟨by rfl, ?hy47x13⟩) (by assumption) ?rest47x13
  case hy47x13 => intro w hSw; obtain ⟨r0, r1, r2, r3, r4, r5, r6, r7, r8⟩ := hSw; go_simp <;> with_reducible rfl
  simp only [Act.put, List.getElem_toArray, List.getElem_cons_zero, List.getElem_cons_succ, List.setIfInBounds_toArray, List.set_cons_zero, List.set_cons_succ]
  refine wpAnyH_take (i := 14) (v := ?v48x14) rfl (by as_aux_lemma => kernel_rfl) (by as_aux_lemma => kernel_rfl) (by as_aux_lemma => kernel_rfl) (fun _ _ _ h => h) (Or.inl ⟨by rfl, ?hy48x14⟩) (by assumption) ?rest48x14
  case hy48x14 => intro w hSw; obtain ⟨r0, r1, r2, r3, r4, r5, r6, r7, r8⟩ := hSw; go_simp <;> with_reducible rfl
  simp only [Act.put, List.getElem_toArray, List.getElem_cons_zero, List.getElem_cons_succ, List.setIfInBounds_toArray, List.set_cons_zero, List.set_cons_succ]
  refine wpAnyH_take (i := 15) (v := ?v49x15) rfl (by as_aux_lemma => kernel_rfl) (by as_aux_lemma => kernel_rfl) (by as_aux_lemma => kernel_rfl) (fun _ _ _ h => h) (Or.inl ⟨by rfl, ?hy49x15⟩) (by assumption) ?rest49x15
  case hy49x15 => intro w hSw; obtain ⟨r0, r1, r2, r3, r4, r5, r6, r7, r8⟩ := hSw; go_simp <;> with_reducible rfl
  simp only [Act.put, List.getElem_toArray, List.getElem_cons_zero, List.getElem_cons_succ, List.setIfInBounds_toArray, List.set_cons_zero, List.set_cons_succ]
  refine wpAnyH_take (i := 16) (v := ?v50x16) rfl (by as_aux_lemma => kernel_rfl) (by as_aux_lemma => kernel_rfl) (by as_aux_lemma => kernel_rfl) (fun _ _ _ h => h) (Or.inl ⟨by rfl, ?hy50x16⟩) (by assumption) ?rest50x16
  case hy50x16 => intro w hSw; obtain ⟨r0, r1, r2, r3, r4, r5, r6, r7, r8⟩ := hSw; go_simp <;> with_reducible rfl
  simp only [Act.put, List.getElem_toArray, List.getElem_cons_zero, List.getElem_cons_succ, List.setIfInBounds_toArray, List.set_cons_zero, List.set_cons_succ]
  refine wpAnyH_ready (rs := [8]) (by as_aux_lemma => kernel_rfl) (by simp) ?_
  refine AllReadyH.cons rfl (fun K hK => ?_) AllReadyH.nil
  go_simp
  refine (unhide HP1).mono ?_
  rintro e w1 ⟨rfl, i1, u1⟩
  refine hK _ _ (unhide HX w1 (unhide HBX w1 u1)) ?_
  clear hK hHeld
  have HC2 := hide (unhide HP2 w1 i1 u1)
  clear i1 u1
  intro hHeld
  refine wpAnyH_ready (rs := [17]) (by as_aux_lemma => kernel_rfl) (by simp) ?_
  refine AllReadyH.cons rfl (fun K hK => ?_) AllReadyH.nil
  go_simp
  refine (unhide HC2).mono ?_
  rintro e w2 ⟨rfl, j2, b2, k2⟩
  refine hK _ _ (unhide HX w2 (k2 _ (unhide HS2) (unhide HNT).1 (unhide HNT).2)) ?_
  clear hK hHeld
  have HJ2 := hide j2
  have HBF := hide (unhide HB2 w2 b2)
  clear j2 b2 k2
  intro hHeld
  refine wpAnyH_take (i := 18) (v := (.bool true)) rfl (by as_aux_lemma => kernel_rfl) (by as_aux_lemma => kernel_rfl) (by as_aux_lemma => kernel_rfl) (fun _ _ _ h => h) (Or.inl ⟨by rfl, ?hy51x18⟩) (by assumption) ?rest51x18
  case hy51x18 => intro w hSw; obtain ⟨r0, r1, r2, r3, r4, r5, r6, r7, r8⟩ := hSw; go_simp <;> with_reducible rfl
  simp only [Act.put, List.getElem_toArray, List.getElem_cons_zero, List.getElem_cons_succ, List.setIfInBounds_toArray, List.set_cons_zero, List.set_cons_succ]
  refine wpAnyH_take (i := 19) (v := ?v52x19) rfl (by as_aux_lemma => kernel_rfl) (by as_aux_lemma => kernel_rfl) (by as_aux_lemma => kernel_rfl) (fun _ _ _ h => h) (Or.inl ⟨by rfl, ?hy52x19⟩) (by assumption) ?rest52x19
  case hy52x19 => intro w hSw; obtain ⟨r0, r1, r2, r3, r4, r5, r6, r7, r8⟩ := hSw; go_simp <;> with_reducible rfl
  simp only [Act.put, List.getElem_toArray, List.getElem_cons_zero, List.getElem_cons_succ, List.setIfInBounds_toArray, List.set_cons_zero, List.set_cons_succ]
  refine wpAnyH_done (by as_aux_lemma => kernel_rfl) ?_ _
  go_wp2
  go_ret
  exact ⟨rfl, _, unhide HJ2, unhide HBF⟩

set_option maxHeartbeats 1600000 in
theorem st_spoil (J : Jt w B g h cap hr gp gw cp cw S F) (hB : B ≤ w.heap.size) (x0 f n slot last x6 x7 x8 : Int) (ao : Option Addr) (dc : Nat) (ds : List Int) (n0 : (x0 == 0) = false) (n1 : (x0 == 1) = false) (n2 : (x0 == 2) = false) (n3 : (x0 == 3) = false) (n4 : (x0 == 4) = false) (n5 : (x0 == 5) = false) (n6 : (x0 == 6) = false) :
    Calls Tryz.prog 7 #[P0 h, P0 hr, .agg #[.int .i64 x0, .int .i64 f, .int .i64 n, .int .i64 slot, .int .i64 last, .slice ao ds.length dc, .int .i64 x6, .int .i64 x7, .int .i64 x8]] w (Stp B g h cap hr gp gw cp cw S w) := by
  obtain ⟨V, hV⟩ : ∃ V, w.alloc (.cells #[.int .i64 x0, .int .i64 f, .int .i64 n, .int .i64 slot, .int .i64 last, .slice ao ds.length dc, .int .i64 x6, .int .i64 x7, .int .i64 x8] 37) = V := ⟨_, rfl⟩
  have bV : Below w.heap.size w V := hV ▸ (Below.refl _ _).alloc (Nat.le_refl _) _
  have hsV : V.heap.size = w.heap.size + 1 := by rw [← hV]; simp
  have HBW : Hid (∀ x, Below B V x → Below B w x) := fun x hx => (bV.mono hB).trans hx
  have HX : Hid (∀ x : World, x.heap[w.heap.size]? = V.heap[w.heap.size]? → x.cell? ⟨w.heap.size, 0, none⟩ = some (.int .i64 x0) ∧ x.cell? ⟨w.heap.size, 1, none⟩ = some (.int .i64 f) ∧ x.cell? ⟨w.heap.size, 2, none⟩ = some (.int .i64 n) ∧ x.cell? ⟨w.heap.size, 3, none⟩ = some (.int .i64 slot) ∧ x.cell? ⟨w.heap.size, 4, none⟩ = some (.int .i64 last) ∧ x.cell? ⟨w.heap.size, 5, none⟩ = some (.slice ao ds.length dc) ∧ x.cell? ⟨w.heap.size, 6, none⟩ = some (.int .i64 x6) ∧ x.cell? ⟨w.heap.size, 7, none⟩ = some (.int .i64 x7) ∧ x.cell? ⟨w.heap.size, 8, none⟩ = some (.int .i64 x8)) := fun x hx => by
    have c : ∀ o, x.cell? ⟨w.heap.size, o, none⟩ = V.cell? ⟨w.heap.size, o, none⟩ := fun o => World.cell?_of_block (w := V) hx
    refine ⟨?_, ?_, ?_, ?_, ?_, ?_, ?_, ?_, ?_⟩ <;> (rw [c, ← hV]; simp [go_sem])
  obtain ⟨gl, hhl⟩ : g < w.heap.size ∧ h < w.heap.size := ⟨J.fl.glt, J.fl.hlt⟩
  obtain ⟨rl1, rl2, rl3⟩ : hr < w.heap.size ∧ gp < w.heap.size ∧ gw < w.heap.size := by obtain ⟨_, _, _, _, H⟩ := J.rf; exact ⟨H.rlt.1, H.rlt.2.1, H.rlt.2.2.1⟩
  have HNT : Hid (¬ Two g h w.heap.size ∧ ¬ OnlyRf hr gp gw w.heap.size) := ⟨by show ¬ (w.heap.size = g ∨ w.heap.size = h); omega, by show ¬ (w.heap.size = hr ∨ w.heap.size = gp ∨ w.heap.size = gw); omega⟩
  have JX : Jt V.drew B g h cap hr gp gw cp cw S F := J.below bV.drew
  have HSV := hide hsV
  have HP1 : Hid (Calls Tryz.prog 27 #[P0 h, .int .i64 x6, .int .i64 x7, .int .i64 x8, .int .u8 1] (V.drew) fun e w' => e = .returned (.int .i64 (F.spoil x6 x7 x8 1).1) ∧ IsFl w' g h cap (F.spoil x6 x7 x8 1).2 ∧ Upd (Two g h) (V.drew).heap.size (V.drew) w') := spoil_all JX.fl JX.full x6 x7 x8 1 (by decide) (by decide)
  have HP2 : Hid (∀ w1, IsFl w1 g h cap (F.spoil x6 x7 x8 1).2 → Upd (Two g h) (V.drew).heap.size (V.drew) w1 → Calls Tryz.prog 28 #[P0 hr, .int .i64 x6, .int .i64 x7, .int .i64 x8, .int .u8 1] w1 fun e w2 => e = .returned (.int .i64 (F.spoil x6 x7 x8 1).1) ∧ Jt w2 B g h cap hr gp gw cp cw S (F.spoil x6 x7 x8 1).2 ∧ Below B (V.drew) w2 ∧ ∀ b, b < (V.drew).heap.size → ¬ Two g h b → ¬ OnlyRf hr gp gw b → w2.heap[b]? = (V.drew).heap[b]?) := fun w1 i1 u1 => pair_doc JX i1 u1 _ _ (fun pb cb bv kp H hin hb => rspoil_all H hin x6 x7 x8 1 (by decide) (by decide))
  have HBX : Hid (∀ w1, Upd (Two g h) (V.drew).heap.size (V.drew) w1 → w1.heap[w.heap.size]? = V.heap[w.heap.size]?) := fun w1 u1 => u1.block w.heap.size (by show w.heap.size < V.heap.size; omega) (unhide HNT).1
  have HB2 : Hid (∀ w2, Below B (V.drew) w2 → Below B w w2) := fun w2 b => unhide HBW w2 ((Below.refl _ _).drew.trans b)
  have HS2 : Hid (w.heap.size < (V.drew).heap.size) := by show w.heap.size < V.heap.size; omega
  generalize (F.spoil x6 x7 x8 1).1 = er at HP1 HP2
  generalize (F.spoil x6 x7 x8 1).2 = F1 at HP1 HP2
  clear J JX bV hsV gl hhl rl1 rl2 rl3
  obtain ⟨q0, q1, q2, q3, q4, q5, q6, q7, q8⟩ := unhide HX V rfl
  go_enter Tryz.func7, Tryz.ntmps7
  go_wp2_with (first | rw [hV] | fail)
  refine wp_region_held_drew (S := fun x => x.cell? ⟨w.heap.size, 0, none⟩ = some (.int .i64 x0) ∧ x.cell? ⟨w.heap.size, 1, none⟩ = some (.int .i64 f) ∧ x.cell? ⟨w.heap.size, 2, none⟩ = some (.int .i64 n) ∧ x.cell? ⟨w.heap.size, 3, none⟩ = some (.int .i64 slot) ∧ x.cell? ⟨w.heap.size, 4, none⟩ = some (.int .i64 last) ∧ x.cell? ⟨w.heap.size, 5, none⟩ = some (.slice ao ds.length dc) ∧ x.cell? ⟨w.heap.size, 6, none⟩ = some (.int .i64 x6) ∧ x.cell? ⟨w.heap.size, 7, none⟩ = some (.int .i64 x7) ∧ x.cell? ⟨w.heap.size, 8, none⟩ = some (.int .i64 x8)) (by kernel_rfl) (unhide HX V.drew rfl) (fun hHeld => ?_)
  refine wpAnyH_take (i := 0) (v := ?v53x0) rfl (by as_aux_lemma => kernel_rfl) (by as_aux_lemma => kernel_rfl) (by as_aux_lemma => kernel_rfl) (fun _ _ _ h => h) (Or.inl ⟨by rfl, ?hy53x0⟩) (by assumption) ?rest53x0
  case hy53x0 => intro w hSw; obtain ⟨r0, r1, r2, r3, r4, r5, r6, r7, r8⟩ := hSw; go_simp <;> with_reducible rfl
  simp only [Act.put, List.getElem_toArray, List.getElem_cons_zero, List.setIfInBounds_toArray, List.set_cons_zero, List.set_cons_succ]
  refine wpAnyH_take (i := 1) (v := ?v54x1) rfl (by as_aux_lemma => kernel_rfl) (by as_aux_lemma => kernel_rfl) (by as_aux_lemma => kernel_rfl) (fun _ _ _ h => h) (Or.inl ⟨by rfl, ?hy54x1⟩) (by assumption) ?rest54x1
  case hy54x1 => intro w hSw; obtain ⟨r0, r1, r2, r3, r4, r5, r6, r7, r8⟩ := hSw; go_simp <;> with_reducible rfl
  simp only [Act.put, List.getElem_toArray, List.getElem_cons_zero, List.getElem_cons_succ, List.setIfInBounds_toArray, List.set_cons_zero, List.set_cons_succ]
  refine wpAnyH_take (i := 2) (v := ?v55x2) rfl (by as_aux_lemma => kernel_rfl) (by as_aux_lemma => kernel_rfl) (by as_aux_lemma => kernel_rfl) (fun _ _ _ h => h) (Or.inl ⟨by rfl, ?hy55x2⟩) (by assumption) ?rest55x2
  case hy55x2 => intro w hSw; obtain ⟨r0, r1, r2, r3, r4, r5, r6, r7, r8⟩ := hSw; go_simp <;> with_reducible rfl
  simp only [Act.put, List.getElem_toArray, List.getElem_cons_zero, List.getElem_cons_succ, List.setIfInBounds_toArray, List.set_cons_zero, List.set_cons_succ]
  refine wpAnyH_take (i := 3) (v := ?v56x3) rfl (by as_aux_lemma => kernel_rfl) (by as_aux_lemma => kernel_rfl) (by as_aux_lemma => kernel_rfl) (fun _ _ _ h => h) (Or.inl ⟨by rfl, ?hy56x3⟩) (by assumption) ?rest56x3
  case hy56x3 => intro w hSw; obtain ⟨r0, r1, r2, r3, r4, r5, r6, r7, r8⟩ := hSw; go_simp <;> with_reducible rfl
  simp only [Act.put, List.getElem_toArray, List.getElem_cons_zero, List.getElem_cons_succ, List.setIfInBounds_toArray, List.set_cons_zero, List.set_cons_succ]
  refine wpAnyH_take (i := 4) (v := ?v57x4) rfl (by as_aux_lemma => kernel_rfl) (by as_aux_lemma => kernel_rfl) (by as_aux_lemma => kernel_rfl) (fun _ _ _ h => h) (Or.inl ⟨by rfl, ?hy57x4⟩) (by assumption) ?rest57x4
  case hy57x4 => intro w hSw; obtain ⟨r0, r1, r2, r3, r4, r5, r6, r7, r8⟩ := hSw; go_simp <;> with_reducible rfl
  simp only [Act.put, List.getElem_toArray, List.getElem_cons_zero, List.getElem_cons_succ, List.setIfInBounds_toArray, List.set_cons_zero, List.set_cons_succ]
  refine wpAnyH_take (i := 5) (v := ?v58x5) rfl (by as_aux_lemma => kernel_rfl) (by as_aux_lemma => kernel_rfl) (by as_aux_lemma => kernel_rfl) (fun _ _ _ h => h) (Or.inl ⟨by rfl, ?hy58x5⟩) (by assumption) ?rest58x5
  case hy58x5 => intro w hSw; obtain ⟨r0, r1, r2, r3, r4, r5, r6, r7, r8⟩ := hSw; go_simp <;> with_reducible rfl
  simp only [Act.put, List.getElem_toArray, List.getElem_cons_zero, List.getElem_cons_succ, List.setIfInBounds_toArray, List.set_cons_zero, List.set_cons_succ]
  refine wpAnyH_take (i := 6) (v := ?v59x6) rfl (by as_aux_lemma => kernel_rfl) (by as_aux_lemma => kernel_rfl) (by as_aux_lemma => kernel_rfl) (fun _ _ _ h => h) (Or.inl ⟨by rfl, ?hy59x6⟩) (by assumption) ?rest59x6
  case hy59x6 => intro w hSw; obtain ⟨r0, r1, r2, r3, r4, r5, r6, r7, r8⟩ := hSw; go_simp <;> with_reducible rfl
  simp only [Act.put, List.getElem_toArray, List.getElem_cons_zero, List.getElem_cons_succ, List.setIfInBounds_toArray, List.set_cons_zero, List.set_cons_succ]
  refine wpAnyH_take (i := 8) (v := ?v60x8) rfl (by as_aux_lemma => kernel_rfl) (by as_aux_lemma => kernel_rfl) (by as_aux_lemma => kernel_rfl) (fun _ _ _ h => h) (Or.inl ⟨by rfl, ?hy60x8⟩) (by assumption) ?rest60x8
  case hy60x8 => intro w hSw; obtain ⟨r0, r1, r2, r3, r4, r5, r6, r7, r8⟩ := hSw; go_simp <;> with_reducible rfl
  simp only [Act.put, List.getElem_toArray, List.getElem_cons_zero, List.getElem_cons_succ, List.setIfInBounds_toArray, List.set_cons_zero, List.set_cons_succ]
  refine wpAnyH_take (i := 9) (v := ?v61x9) rfl (by as_aux_lemma => kernel_rfl) (by as_aux_lemma => kernel_rfl) (by as_aux_lemma => kernel_rfl) (fun _ _ _ h => h) (Or.inl ⟨by rfl, ?hy61x9⟩) (by assumption) ?rest61x9
  case hy61x9 => intro w hSw; obtain ⟨r0, r1, r2, r3, r4, r5, r6, r7, r8⟩ := hSw; go_simp <;> with_reducible rfl
  simp only [Act.put, List.getElem_toArray, List.getElem_cons_zero, List.getElem_cons_succ, List.setIfInBounds_toArray, List.set_cons_zero, List.set_cons_succ]
  refine wpAnyH_take (i := 10) (v := ?v62x10) rfl (by as_aux_lemma => kernel_rfl) (by as_aux_lemma => kernel_rfl) (by as_aux_lemma => kernel_rfl) (fun _ _ _ h => h) (Or.inl ⟨by rfl, ?hy62x10⟩) (by assumption) ?rest62x10
  case hy62x10 => intro w hSw; obtain ⟨r0, r1, r2, r3, r4, r5, r6, r7, r8⟩ := hSw; go_simp <;> with_reducible rfl
  simp only [Act.put, List.getElem_toArray, List.getElem_cons_zero, List.getElem_cons_succ, List.setIfInBounds_toArray, List.set_cons_zero, List.set_cons_succ]
  refine wpAnyH_take (i := 11) (v := ?v63x11) rfl (by as_aux_lemma => kernel_rfl) (by as_aux_lemma => kernel_rfl) (by as_aux_lemma => kernel_rfl) (fun _ _ _ h => h) (Or.inl ⟨by rfl, ?hy63x11⟩) (by assumption) ?rest63x11
  case hy63x11 => intro w hSw; obtain ⟨r0, r1, r2, r3, r4, r5, r6, r7, r8⟩ := hSw; go_simp <;> with_reducible rfl
  simp only [Act.put, List.getElem_toArray, List.getElem_cons_zero, List.getElem_cons_succ, List.setIfInBounds_toArray, List.set_cons_zero, List.set_cons_succ]
  refine wpAnyH_take (i := 12) (v := ?v64x12) rfl (by as_aux_lemma => kernel_rfl) (by as_aux_lemma => kernel_rfl) (by as_aux_lemma => kernel_rfl) (fun _ _ _ h => h) (Or.inl ⟨by rfl, ?hy64x12⟩) (by assumption) ?rest64x12
  case hy64x12 => intro w hSw; obtain ⟨r0, r1, r2, r3, r4, r5, r6, r7, r8⟩ := hSw; go_simp <;> with_reducible rfl
  simp only [Act.put, List.getElem_toArray, List.getElem_cons_zero, List.getElem_cons_succ, List.setIfInBounds_toArray, List.set_cons_zero, List.set_cons_succ]
  refine wpAnyH_take (i := 13) (v := ?v65x13) rfl (by as_aux_lemma => kernel_rfl) (by as_aux_lemma => kernel_rfl) (by as_aux_lemma => kernel_rfl) (fun _ _ _ h => h) (Or.inl ⟨by rfl, ?hy65x13⟩) (by assumption) ?rest65x13
  case hy65x13 => intro w hSw; obtain ⟨r0, r1, r2, r3, r4, r5, r6, r7, r8⟩ := hSw; go_simp <;> with_reducible rfl
  simp only [Act.put, List.getElem_toArray, List.getElem_cons_zero, List.getElem_cons_succ, List.setIfInBounds_toArray, List.set_cons_zero, List.set_cons_succ]
  refine wpAnyH_take (i := 14) (v := ?v66x14) rfl (by as_aux_lemma => kernel_rfl) (by as_aux_lemma => kernel_rfl) (by as_aux_lemma => kernel_rfl) (fun _ _ _ h => h) (Or.inl ⟨by rfl, ?hy66x14⟩) (by assumption) ?rest66x14
  case hy66x14 => intro w hSw; obtain ⟨r0, r1, r2, r3, r4, r5, r6, r7, r8⟩ := hSw; go_simp <;> with_reducible rfl
  simp only [Act.put, List.getElem_toArray, List.getElem_cons_zero, List.getElem_cons_succ, List.setIfInBounds_toArray, List.set_cons_zero, List.set_cons_succ]
  refine wpAnyH_ready (rs := [7]) (by as_aux_lemma => kernel_rfl) (by simp) ?_
  refine AllReadyH.cons rfl (fun K hK => ?_) AllReadyH.nil
  go_simp
  refine (unhide HP1).mono ?_
  rintro e w1 ⟨rfl, i1, u1⟩
  refine hK _ _ (unhide HX w1 (unhide HBX w1 u1)) ?_
  clear hK hHeld
  have HC2 := hide (unhide HP2 w1 i1 u1)
  clear i1 u1
  intro hHeld
  refine wpAnyH_ready (rs := [15]) (by as_aux_lemma => kernel_rfl) (by simp) ?_
  refine AllReadyH.cons rfl (fun K hK => ?_) AllReadyH.nil
  go_simp
  refine (unhide HC2).mono ?_
  rintro e w2 ⟨rfl, j2, b2, k2⟩
  refine hK _ _ (unhide HX w2 (k2 _ (unhide HS2) (unhide HNT).1 (unhide HNT).2)) ?_
  clear hK hHeld
  have HJ2 := hide j2
  have HBF := hide (unhide HB2 w2 b2)
  clear j2 b2 k2
  intro hHeld
  refine wpAnyH_take (i := 16) (v := (.bool true)) rfl (by as_aux_lemma => kernel_rfl) (by as_aux_lemma => kernel_rfl) (by as_aux_lemma => kernel_rfl) (fun _ _ _ h => h) (Or.inl ⟨by rfl, ?hy67x16⟩) (by assumption) ?rest67x16
  case hy67x16 => intro w hSw; obtain ⟨r0, r1, r2, r3, r4, r5, r6, r7, r8⟩ := hSw; go_simp <;> with_reducible rfl
  simp only [Act.put, List.getElem_toArray, List.getElem_cons_zero, List.getElem_cons_succ, List.setIfInBounds_toArray, List.set_cons_zero, List.set_cons_succ]
  refine wpAnyH_take (i := 17) (v := ?v68x17) rfl (by as_aux_lemma => kernel_rfl) (by as_aux_lemma => kernel_rfl) (by as_aux_lemma => kernel_rfl) (fun _ _ _ h => h) (Or.inl ⟨by rfl, ?hy68x17⟩) (by assumption) ?rest68x17
  case hy68x17 => intro w hSw; obtain ⟨r0, r1, r2, r3, r4, r5, r6, r7, r8⟩ := hSw; go_simp <;> with_reducible rfl
  simp only [Act.put, List.getElem_toArray, List.getElem_cons_zero, List.getElem_cons_succ, List.setIfInBounds_toArray, List.set_cons_zero, List.set_cons_succ]
  refine wpAnyH_done (by as_aux_lemma => kernel_rfl) ?_ _
  go_wp2
  go_ret
  exact ⟨rfl, _, unhide HJ2, unhide HBF⟩

set_option maxHeartbeats 1600000 in
theorem st_crash (J : Jt w B g h cap hr gp gw cp cw S F) (hB : B ≤ w.heap.size) (f n slot last x6 x7 x8 : Int) (ao : Option Addr) (dc : Nat) (ds : List Int) :
    Calls Tryz.prog 7 #[P0 h, P0 hr, .agg #[.int .i64 3, .int .i64 f, .int .i64 n, .int .i64 slot, .int .i64 last, .slice ao ds.length dc, .int .i64 x6, .int .i64 x7, .int .i64 x8]] w (Stp B g h cap hr gp gw cp cw S w) := by
  obtain ⟨V, hV⟩ : ∃ V, w.alloc (.cells #[.int .i64 3, .int .i64 f, .int .i64 n, .int .i64 slot, .int .i64 last, .slice ao ds.length dc, .int .i64 x6, .int .i64 x7, .int .i64 x8] 37) = V := ⟨_, rfl⟩
  have bV : Below w.heap.size w V := hV ▸ (Below.refl _ _).alloc (Nat.le_refl _) _
  have hsV : V.heap.size = w.heap.size + 1 := by rw [← hV]; simp
  have HBW : Hid (∀ x, Below B V x → Below B w x) := fun x hx => (bV.mono hB).trans hx
  have HX : Hid (∀ x : World, x.heap[w.heap.size]? = V.heap[w.heap.size]? → x.cell? ⟨w.heap.size, 0, none⟩ = some (.int .i64 3) ∧ x.cell? ⟨w.heap.size, 1, none⟩ = some (.int .i64 f) ∧ x.cell? ⟨w.heap.size, 2, none⟩ = some (.int .i64 n) ∧ x.cell? ⟨w.heap.size, 3, none⟩ = some (.int .i64 slot) ∧ x.cell? ⟨w.heap.size, 4, none⟩ = some (.int .i64 last) ∧ x.cell? ⟨w.heap.size, 5, none⟩ = some (.slice ao ds.length dc) ∧ x.cell? ⟨w.heap.size, 6, none⟩ = some (.int .i64 x6) ∧ x.cell? ⟨w.heap.size, 7, none⟩ = some (.int .i64 x7) ∧ x.cell? ⟨w.heap.size, 8, none⟩ = some (.int .i64 x8)) := fun x hx => by
    have c : ∀ o, x.cell? ⟨w.heap.size, o, none⟩ = V.cell? ⟨w.heap.size, o, none⟩ := fun o => World.cell?_of_block (w := V) hx
    refine ⟨?_, ?_, ?_, ?_, ?_, ?_, ?_, ?_, ?_⟩ <;> (rw [c, ← hV]; simp [go_sem])
  obtain ⟨gl, hhl⟩ : g < w.heap.size ∧ h < w.heap.size := ⟨J.fl.glt, J.fl.hlt⟩
  obtain ⟨rl1, rl2, rl3⟩ : hr < w.heap.size ∧ gp < w.heap.size ∧ gw < w.heap.size := by obtain ⟨_, _, _, _, H⟩ := J.rf; exact ⟨H.rlt.1, H.rlt.2.1, H.rlt.2.2.1⟩
  have HNT : Hid (¬ Two g h w.heap.size ∧ ¬ OnlyRf hr gp gw w.heap.size) := ⟨by show ¬ (w.heap.size = g ∨ w.heap.size = h); omega, by show ¬ (w.heap.size = hr ∨ w.heap.size = gp ∨ w.heap.size = gw); omega⟩
  have JX : Jt V B g h cap hr gp gw cp cw S F := J.below bV
  have HSV := hide hsV
  have HP1 : Hid (Calls Tryz.prog 19 #[P0 h] (V) fun e w' => e = .returned (.int .i64 F.crash.1) ∧ IsFl w' g h cap F.crash.2 ∧ Upd (Two g h) (V).heap.size (V) w') := crash_all JX.fl
  have HP2 : Hid (∀ w1, IsFl w1 g h cap F.crash.2 → Upd (Two g h) (V).heap.size (V) w1 → Calls Tryz.prog 20 #[P0 hr] w1 fun e w2 => e = .returned (.int .i64 F.crash.1) ∧ Jt w2 B g h cap hr gp gw cp cw S F.crash.2 ∧ Below B (V) w2 ∧ ∀ b, b < (V).heap.size → ¬ Two g h b → ¬ OnlyRf hr gp gw b → w2.heap[b]? = (V).heap[b]?) := fun w1 i1 u1 => pair_doc JX i1 u1 _ _ (fun pb cb bv kp H hin hb => (rcrash_any H).mono fun e w2 ⟨h1, h2, h3⟩ => ⟨h1, ⟨_, _, _, _, h2⟩, h3⟩)
  have HBX : Hid (∀ w1, Upd (Two g h) (V).heap.size (V) w1 → w1.heap[w.heap.size]? = V.heap[w.heap.size]?) := fun w1 u1 => u1.block w.heap.size (by show w.heap.size < V.heap.size; omega) (unhide HNT).1
  have HB2 : Hid (∀ w2, Below B (V) w2 → Below B w w2) := fun w2 b => unhide HBW w2 (b)
  have HS2 : Hid (w.heap.size < (V).heap.size) := by show w.heap.size < V.heap.size; omega
  generalize F.crash.1 = er at HP1 HP2
  generalize F.crash.2 = F1 at HP1 HP2
  clear J JX bV hsV gl hhl rl1 rl2 rl3
  obtain ⟨q0, q1, q2, q3, q4, q5, q6, q7, q8⟩ := unhide HX V rfl
  go_enter Tryz.func7, Tryz.ntmps7
  go_wp2_with (first | rw [hV] | fail)
  refine (unhide HP1).mono ?_
  rintro e w1 ⟨rfl, i1, u1⟩
  have HC2 := hide (unhide HP2 w1 i1 u1)
  clear i1 u1
  go_wp2_with fail
  refine (unhide HC2).mono ?_
  rintro e w2 ⟨rfl, j2, b2, _⟩
  have HJ2 := hide j2
  have HBF := hide (unhide HB2 w2 b2)
  clear j2 b2
  go_wp2
  go_ret
  exact ⟨rfl, _, unhide HJ2, unhide HBF⟩

set_option maxHeartbeats 1600000 in
theorem st_restart (J : Jt w B g h cap hr gp gw cp cw S F) (hB : B ≤ w.heap.size) (f n slot last x6 x7 x8 : Int) (ao : Option Addr) (dc : Nat) (ds : List Int) :
    Calls Tryz.prog 7 #[P0 h, P0 hr, .agg #[.int .i64 4, .int .i64 f, .int .i64 n, .int .i64 slot, .int .i64 last, .slice ao ds.length dc, .int .i64 x6, .int .i64 x7, .int .i64 x8]] w (Stp B g h cap hr gp gw cp cw S w) := by
  obtain ⟨V, hV⟩ : ∃ V, w.alloc (.cells #[.int .i64 4, .int .i64 f, .int .i64 n, .int .i64 slot, .int .i64 last, .slice ao ds.length dc, .int .i64 x6, .int .i64 x7, .int .i64 x8] 37) = V := ⟨_, rfl⟩
  have bV : Below w.heap.size w V := hV ▸ (Below.refl _ _).alloc (Nat.le_refl _) _
  have hsV : V.heap.size = w.heap.size + 1 := by rw [← hV]; simp
  have HBW : Hid (∀ x, Below B V x → Below B w x) := fun x hx => (bV.mono hB).trans hx
  have HX : Hid (∀ x : World, x.heap[w.heap.size]? = V.heap[w.heap.size]? → x.cell? ⟨w.heap.size, 0, none⟩ = some (.int .i64 4) ∧ x.cell? ⟨w.heap.size, 1, none⟩ = some (.int .i64 f) ∧ x.cell? ⟨w.heap.size, 2, none⟩ = some (.int .i64 n) ∧ x.cell? ⟨w.heap.size, 3, none⟩ = some (.int .i64 slot) ∧ x.cell? ⟨w.heap.size, 4, none⟩ = some (.int .i64 last) ∧ x.cell? ⟨w.heap.size, 5, none⟩ = some (.slice ao ds.length dc) ∧ x.cell? ⟨w.heap.size, 6, none⟩ = some (.int .i64 x6) ∧ x.cell? ⟨w.heap.size, 7, none⟩ = some (.int .i64 x7) ∧ x.cell? ⟨w.heap.size, 8, none⟩ = some (.int .i64 x8)) := fun x hx => by
    have c : ∀ o, x.cell? ⟨w.heap.size, o, none⟩ = V.cell? ⟨w.heap.size, o, none⟩ := fun o => World.cell?_of_block (w := V) hx
    refine ⟨?_, ?_, ?_, ?_, ?_, ?_, ?_, ?_, ?_⟩ <;> (rw [c, ← hV]; simp [go_sem])
  obtain ⟨gl, hhl⟩ : g < w.heap.size ∧ h < w.heap.size := ⟨J.fl.glt, J.fl.hlt⟩
  obtain ⟨rl1, rl2, rl3⟩ : hr < w.heap.size ∧ gp < w.heap.size ∧ gw < w.heap.size := by obtain ⟨_, _, _, _, H⟩ := J.rf; exact ⟨H.rlt.1, H.rlt.2.1, H.rlt.2.2.1⟩
  have HNT : Hid (¬ Two g h w.heap.size ∧ ¬ OnlyRf hr gp gw w.heap.size) := ⟨by show ¬ (w.heap.size = g ∨ w.heap.size = h); omega, by show ¬ (w.heap.size = hr ∨ w.heap.size = gp ∨ w.heap.size = gw); omega⟩
  have JX : Jt V B g h cap hr gp gw cp cw S F := J.below bV
  have HSV := hide hsV
  have HP1 : Hid (Calls Tryz.prog 21 #[P0 h] (V) fun e w' => e = .returned (.int .i64 F.restart.1) ∧ IsFl w' g h cap F.restart.2 ∧ Upd (Two g h) (V).heap.size (V) w') := restart_all JX.fl
  have HP2 : Hid (∀ w1, IsFl w1 g h cap F.restart.2 → Upd (Two g h) (V).heap.size (V) w1 → Calls Tryz.prog 22 #[P0 hr] w1 fun e w2 => e = .returned (.int .i64 F.restart.1) ∧ Jt w2 B g h cap hr gp gw cp cw S F.restart.2 ∧ Below B (V) w2 ∧ ∀ b, b < (V).heap.size → ¬ Two g h b → ¬ OnlyRf hr gp gw b → w2.heap[b]? = (V).heap[b]?) := fun w1 i1 u1 => pair_doc JX i1 u1 _ _ (fun pb cb bv kp H hin hb => (rrestart_any H).mono fun e w2 ⟨h1, h2, h3⟩ => ⟨h1, ⟨_, _, _, _, h2⟩, h3⟩)
  have HBX : Hid (∀ w1, Upd (Two g h) (V).heap.size (V) w1 → w1.heap[w.heap.size]? = V.heap[w.heap.size]?) := fun w1 u1 => u1.block w.heap.size (by show w.heap.size < V.heap.size; omega) (unhide HNT).1
  have HB2 : Hid (∀ w2, Below B (V) w2 → Below B w w2) := fun w2 b => unhide HBW w2 (b)
  have HS2 : Hid (w.heap.size < (V).heap.size) := by show w.heap.size < V.heap.size; omega
  generalize F.restart.1 = er at HP1 HP2
  generalize F.restart.2 = F1 at HP1 HP2
  clear J JX bV hsV gl hhl rl1 rl2 rl3
  obtain ⟨q0, q1, q2, q3, q4, q5, q6, q7, q8⟩ := unhide HX V rfl
  go_enter Tryz.func7, Tryz.ntmps7
  go_wp2_with (first | rw [hV] | fail)
  refine (unhide HP1).mono ?_
  rintro e w1 ⟨rfl, i1, u1⟩
  have HC2 := hide (unhide HP2 w1 i1 u1)
  clear i1 u1
  go_wp2_with fail
  refine (unhide HC2).mono ?_
  rintro e w2 ⟨rfl, j2, b2, _⟩
  have HJ2 := hide j2
  have HBF := hide (unhide HB2 w2 b2)
  clear j2 b2
  go_wp2
  go_ret
  exact ⟨rfl, _, unhide HJ2, unhide HBF⟩
end Go.Proofs.YtiijbklaapaheaaGreat
