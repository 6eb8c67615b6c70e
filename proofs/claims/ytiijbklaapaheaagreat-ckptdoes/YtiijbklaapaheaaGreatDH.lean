/- The document's checkpoints: what a half shows. -/
import Derived.Test.YtiijbklaapaheaaGreatKH
namespace Go.Proofs.YtiijbklaapaheaaGreat
open Go.RowKit
set_option maxRecDepth 100000
variable {w : World} {S : Nat → Prop} {hr gp gw cp cw : Nat} {pb cb : Nat → Nat} {bv : Nat → Nat → Value} {F : Fl} {kp : Int}

theorem IsRf.readE {w : World} (_H : IsRf w S hr gp gw cp cw pb cb bv F kp) (hd : F.down = false) (i j : Nat) (hi : i < F.n) (hj : j < 16) : (F.readE i j ≠ 0) ↔ F.st i j ≠ 2 := by
  unfold Fl.readE
  rw [if_neg (by rw [hd]; decide), if_neg (not_not_intro ⟨by omega, by omega, by omega, by omega⟩)]
  simp only [Int.toNat_natCast]
  by_cases c : F.st i j = 2
  · rw [if_pos c]; simp [c]
  · rw [if_neg c]
    constructor
    · intro _; exact c
    · intro _; split <;> decide
theorem IsRf.readB {w : World} (H : IsRf w S hr gp gw cp cw pb cb bv F kp) (hd : F.down = false) (i j : Nat) (hi : i < F.n) (hj : j < 16) (hs : F.st i j = 2) : F.readB i j = bytesOf (F.bs i j) := by
  unfold Fl.readB
  rw [if_pos]
  · simp
  · have := H.readE hd i j hi hj
    by_cases c : F.readE i j = 0
    · exact c
    · exact absurd hs (this.1 c)
theorem bytesOf_len (b : ByteArray) : (bytesOf b).length = b.size := by unfold bytesOf; rw [List.length_map]; rfl

set_option maxHeartbeats 3200000 in
theorem rhalf_any (H : IsRf w S hr gp gw cp cw pb cb bv F kp) (hd : F.down = false) (f n : Nat) (hfn : f + n ≤ F.n) (hn2 : 2 ≤ n) (hv : Int) (a : Nat) (hh : (hv = 0 ∧ a = f) ∨ (hv = 1 ∧ a = f + n / 2)) :
    Calls Tryz.prog 74 #[P0 hr, .agg #[.int .i64 f, .int .i64 n], .int .i64 hv] w fun e w' => ∃ dv, e = .returned (.tuple #[.agg #[.int .i64 (dec (rdL F a (n / 2))).num, .int .i64 (dec (rdL F a (n / 2))).slot, .int .i64 (dec (rdL F a (n / 2))).last, dv], .bool (decide ((dec (rdL F a (n / 2))).err = 0))]) ∧ w'.ownsRow w.heap.size 5 1 dv (dec (rdL F a (n / 2))).data.length (ints .u8 (dec (rdL F a (n / 2))).data) ∧ Below w.heap.size w w' := by
  obtain ⟨i5, hi5, hz0, hz1, hz2⟩ := info_parts Tryz.info5
  have hle := H.le
  have hrl := H.rlt.1
  obtain ⟨m, hm⟩ : ∃ m, n / 2 = m := ⟨_, rfl⟩
  have hm' : (n : Int) / 2 = (m : Int) := by omega
  rw [hm] at hh ⊢
  have ham : a + m ≤ F.n := by omega
  obtain ⟨B, hB⟩ : ∃ B, (w.alloc (.cells #[.int .i64 f, .int .i64 n] 32)).alloc (.cells #[.int .i64 0, .int .i64 0, .int .i64 0, .slice none 0 0] 88) = B := ⟨_, rfl⟩
  have HBB : Hid (Below w.heap.size w B) := hB ▸ ((Below.refl _ _).alloc (Nat.le_refl _) _).alloc (by simp) _
  have HSZ : Hid (B.heap.size = w.heap.size + 2) := by show _ = _; rw [← hB]; simp
  have HBX : Hid (∀ x, Below B.heap.size B x → (x.cell? ⟨w.heap.size, 0, none⟩ = some (.int .i64 f) ∧ x.cell? ⟨w.heap.size, 1, none⟩ = some (.int .i64 n)) ∧ (x.cell? ⟨w.heap.size + 1, 0, none⟩ = some (.int .i64 0) ∧ x.cell? ⟨w.heap.size + 1, 1, none⟩ = some (.int .i64 0) ∧ x.cell? ⟨w.heap.size + 1, 2, none⟩ = some (.int .i64 0) ∧ x.cell? ⟨w.heap.size + 1, 3, none⟩ = some (.slice none 0 0)) ∧ ∀ o, x.frozen? ⟨w.heap.size + 1, o, none⟩ = false) := fun x hx => by
    have hs := unhide HSZ
    have c : ∀ b o, b < w.heap.size + 2 → x.cell? ⟨b, o, none⟩ = B.cell? ⟨b, o, none⟩ := fun b o hb => hx.cell (p := ⟨b, o, none⟩) (by show b < _; omega)
    have d : ∀ b o, b < w.heap.size + 2 → x.frozen? ⟨b, o, none⟩ = B.frozen? ⟨b, o, none⟩ := fun b o hb => World.frozen?_of_block (w := B) (hx.block b (by omega))
    refine ⟨⟨?_, ?_⟩, ⟨?_, ?_, ?_, ?_⟩, fun o => ?_⟩
    · rw [c _ _ (by omega), ← hB]; simp [go_sem, World.cell?_alloc_old]
    · rw [c _ _ (by omega), ← hB]; simp [go_sem, World.cell?_alloc_old]
    · rw [c _ _ (by omega), ← hB]; simp [go_sem]
    · rw [c _ _ (by omega), ← hB]; simp [go_sem]
    · rw [c _ _ (by omega), ← hB]; simp [go_sem]
    · rw [c _ _ (by omega), ← hB]; simp [go_sem]
    · rw [d _ _ (by omega), ← hB]; simp [go_sem]
  have HH : Hid (∀ x, Below B.heap.size B x → IsRf x S hr gp gw cp cw pb cb bv F kp) := fun x hx => (H.below (unhide HBB)).below hx
  have HW : Hid (∀ x, Below B.heap.size B x → Below w.heap.size w x) := fun x hx => (unhide HBB).trans (hx.mono (unhide HBB).size)
  have HRB := hide (rdL_byt F a m)
  obtain ⟨⟨q0, q1⟩, _, _⟩ := unhide HBX B (Below.refl _ _)
  clear H
  rcases hh with ⟨rfl, rfl⟩ | ⟨rfl, rfl⟩
  · go_enter Tryz.func74, Tryz.ntmps74
    go_wp2_with (first | rw [hB] | rw [hm'] | fail)
    go_loopw [9, 10] (fun v c wr => ∃ (k : Nat) (acc : List Int), k ≤ m * 16 ∧ c = .int .i64 k ∧ wr.ownsRow (w.heap.size + 2) 5 1 v acc.length (ints .u8 acc) ∧ acc.length ≤ k * 256 ∧ rdL F a m = acc ++ (pgs F a k (m * 16 - k)).flatten ∧ Below B.heap.size B wr) (fun _ c _ => m * 16 - (intOf c).toNat)
    case atStart => exact ⟨0, [], by omega, rfl, World.ownsRow_nil _ _ _ _, by simp, by simp [rdL], Below.refl _ _⟩
    case round =>
      obtain ⟨k, acc, hk, rfl, hown, hal, hE, hBr⟩ := hrel
      obtain ⟨xa, xc, rfl⟩ := own_shape hown
      have hk40 : k ≤ 16384 := by omega
      by_cases hlt : k < m * 16
      · obtain ⟨i, hi⟩ : ∃ i : Nat, (k : Int) / 16 = i := ⟨k / 16, by omega⟩
        obtain ⟨j, hj⟩ : ∃ j : Nat, (k : Int) % 16 = j := ⟨k % 16, by omega⟩
        obtain ⟨q, hq⟩ : ∃ q : Nat, (a : Int) + (i : Int) = q := ⟨a + i, by omega⟩
        have hqn : q < F.n := by omega
        have hw0 : IntKind.i64.wrap 0 = 0 := rfl
        have hwi : IntKind.i64.wrap (i : Int) = (i : Int) := by rw [IntKind.wrap_i64]; omega
        have hwq : IntKind.i64.wrap (q : Int) = (q : Int) := by rw [IntKind.wrap_i64]; omega
        have hwm : IntKind.i64.wrap (m : Int) = (m : Int) := by rw [IntKind.wrap_i64]; omega
        have hwa : IntKind.i64.wrap (a : Int) = (a : Int) := by rw [IntKind.wrap_i64]; omega
        have hj16 : j < 16 := by omega
        have hjt : (k : Int).tmod 16 = (j : Int) := by rw [Int.tmod_eq_emod_of_nonneg (by omega)]; exact hj
        have hjI : (j : Int) < 16 := by omega
        have hqI : (q : Int) < (F.n : Int) := by omega
        have hwj : IntKind.i64.wrap (j : Int) = (j : Int) := by rw [IntKind.wrap_i64]; omega
        have Hr := unhide HH wr hBr
        obtain ⟨p0, p1, p2⟩ := Hr.cells q hqn j hj16
        have g0 := Hr.c0
        have g1 := Hr.page q hqn
        have g2 := Hr.room q hqn
        have g3 := Hr.fitp
        obtain ⟨ba, bl, bc, hbv⟩ := Hr.shape q j hqn hj16
        rw [hbv] at p2
        obtain ⟨mm, hmm⟩ : ∃ mm, m * 16 - k = mm + 1 := ⟨m * 16 - k - 1, by omega⟩
        rw [hmm, pgs_succ, show a + k / 16 = q by omega, show k % 16 = j by omega] at hE
        have hrdE := Hr.readE hd q j hqn hj16
        have HOW := hide hown
        have HBr := hide hBr
        obtain ⟨⟨q0, q1⟩, _, _⟩ := unhide HBX wr hBr
        by_cases hs : F.st q j = 2
        · have hE2 : rdL F a m = (acc ++ bytesOf (F.bs q j)) ++ (pgs F a (k + 1) mm).flatten := by
            rw [hE, if_neg (fun c => (hrdE.1 c) hs), List.flatten_cons, Hr.readB hd q j hqn hj16 hs, List.append_assoc]
          have HE2 := hide hE2
          have hsz : (bytesOf (F.bs q j)).length = 256 := by rw [bytesOf_len]; exact Hr.full q j hqn hj16 hs
          have HSE := hide (Hr.bytes q j hqn hj16 hs).1
          rw [hbv] at HSE
          rw [decide_eq_true (show F.st q j ≠ 0 by rw [hs]; decide)] at p0
          rw [decide_eq_false (show ¬ F.st q j = 1 by rw [hs]; decide)] at p1
          generalize bytesOf (F.bs q j) = zb at HE2 hsz HSE
          obtain rfl : bl = zb.length := by obtain ⟨_, _, e, _⟩ := unhide HSE; simp only [Value.slice.injEq] at e; exact e.2.1
          have HAL := hide (And.intro hal hsz)
          have HSX : Hid (∀ x, Below wr.heap.size wr x → x.cell? ⟨hr, 0, none⟩ = some (.slice (some ⟨gp, 0, none⟩) F.n cp) ∧ x.cell? ⟨w.heap.size, 0, none⟩ = some (.int .i64 a) ∧ x.cell? ⟨gp, q, none⟩ = some (.slice (some ⟨pb q, 0, none⟩) 16 (cb q)) ∧ x.cell? ⟨pb q, j * 3, none⟩ = some (.bool true) ∧ x.cell? ⟨pb q, j * 3 + 1, none⟩ = some (.bool false) ∧ x.cell? ⟨pb q, j * 3 + 2, none⟩ = some (.slice ba zb.length bc)) := fun x hx =>
            have c : ∀ {p : Addr} {v : Value}, wr.cell? p = some v → x.cell? p = some v := fun h => (hx.cell (World.block_lt_of_cell? wr _ h)).trans h
            ⟨c g0, c q0, c g1, c p0, c p1, c p2⟩
          have HMM := hide hmm
          clear hown hE hE2 hrdE hs hbv Hr hBr hal hsz hmm
          go_wp2_with fail
          refine wp_region_held_drew (S := fun x => x.cell? ⟨hr, 0, none⟩ = some (.slice (some ⟨gp, 0, none⟩) F.n cp) ∧ x.cell? ⟨w.heap.size, 0, none⟩ = some (.int .i64 a) ∧ x.cell? ⟨gp, q, none⟩ = some (.slice (some ⟨pb q, 0, none⟩) 16 (cb q)) ∧ x.cell? ⟨pb q, j * 3, none⟩ = some (.bool true) ∧ x.cell? ⟨pb q, j * 3 + 1, none⟩ = some (.bool false) ∧ x.cell? ⟨pb q, j * 3 + 2, none⟩ = some (.slice ba zb.length bc)) (by kernel_rfl) ⟨g0, q0, g1, p0, p1, p2⟩ (fun hHeld => ?_)
          refine wpAnyH_take (i := 0) (v := ?v1x0) rfl (by as_aux_lemma => kernel_rfl) (by as_aux_lemma => kernel_rfl) (by as_aux_lemma => kernel_rfl) (fun _ _ _ h => h) (Or.inl ⟨by rfl, ?hy1x0⟩) (by assumption) ?rest1x0
          case hy1x0 => intro w hSw; obtain ⟨r0, r1, r2, r3, r4, r5⟩ := hSw; go_simp <;> with_reducible rfl
          simp only [Act.put, List.getElem_toArray, List.getElem_cons_zero, List.setIfInBounds_toArray, List.set_cons_zero, List.set_cons_succ]
          refine wpAnyH_take (i := 1) (v := ?v2x1) rfl (by as_aux_lemma => kernel_rfl) (by as_aux_lemma => kernel_rfl) (by as_aux_lemma => kernel_rfl) (fun _ _ _ h => h) (Or.inl ⟨by rfl, ?hy2x1⟩) (by assumption) ?rest2x1
          case hy2x1 => intro w hSw; obtain ⟨r0, r1, r2, r3, r4, r5⟩ := hSw; go_simp <;> with_reducible rfl
          simp only [Act.put, List.getElem_toArray, List.getElem_cons_zero, List.getElem_cons_succ, List.setIfInBounds_toArray, List.set_cons_zero, List.set_cons_succ]
          refine wpAnyH_take (i := 2) (v := ?v3x2) rfl (by as_aux_lemma => kernel_rfl) (by as_aux_lemma => kernel_rfl) (by as_aux_lemma => kernel_rfl) (fun _ _ _ h => h) (Or.inl ⟨by rfl, ?hy3x2⟩) (by assumption) ?rest3x2
          case hy3x2 => intro w hSw; obtain ⟨r0, r1, r2, r3, r4, r5⟩ := hSw; go_simp <;> with_reducible rfl
          simp only [Act.put, List.getElem_toArray, List.getElem_cons_zero, List.getElem_cons_succ, List.setIfInBounds_toArray, List.set_cons_zero, List.set_cons_succ]
          refine wpAnyH_take (i := 3) (v := ?v4x3) rfl (by as_aux_lemma => kernel_rfl) (by as_aux_lemma => kernel_rfl) (by as_aux_lemma => kernel_rfl) (fun _ _ _ h => h) (Or.inl ⟨by rfl, ?hy4x3⟩) (by assumption) ?rest4x3
          case hy4x3 => intro w hSw; obtain ⟨r0, r1, r2, r3, r4, r5⟩ := hSw; go_simp <;> with_reducible rfl
          simp only [Act.put, List.getElem_toArray, List.getElem_cons_zero, List.getElem_cons_succ, List.setIfInBounds_toArray, List.set_cons_zero, List.set_cons_succ]
          refine wpAnyH_take (i := 4) (v := ?v5x4) rfl (by as_aux_lemma => kernel_rfl) (by as_aux_lemma => kernel_rfl) (by as_aux_lemma => kernel_rfl) (fun _ _ _ h => h) (Or.inl ⟨by rfl, ?hy5x4⟩) (by assumption) ?rest5x4
          case hy5x4 => intro w hSw; obtain ⟨r0, r1, r2, r3, r4, r5⟩ := hSw; go_simp <;> with_reducible rfl
          simp only [Act.put, List.getElem_toArray, List.getElem_cons_zero, List.getElem_cons_succ, List.setIfInBounds_toArray, List.set_cons_zero, List.set_cons_succ]
          refine wpAnyH_take (i := 5) (v := ?v6x5) rfl (by as_aux_lemma => kernel_rfl) (by as_aux_lemma => kernel_rfl) (by as_aux_lemma => kernel_rfl) (fun _ _ _ h => h) (Or.inl ⟨by rfl, ?hy6x5⟩) (by assumption) ?rest6x5
          case hy6x5 => intro w hSw; obtain ⟨r0, r1, r2, r3, r4, r5⟩ := hSw; go_simp <;> with_reducible rfl
          simp only [Act.put, List.getElem_toArray, List.getElem_cons_zero, List.getElem_cons_succ, List.setIfInBounds_toArray, List.set_cons_zero, List.set_cons_succ]
          refine wpAnyH_take (i := 6) (v := ?v7x6) rfl (by as_aux_lemma => kernel_rfl) (by as_aux_lemma => kernel_rfl) (by as_aux_lemma => kernel_rfl) (fun _ _ _ h => h) (Or.inl ⟨by rfl, ?hy7x6⟩) (by assumption) ?rest7x6
          case hy7x6 => intro w hSw; obtain ⟨r0, r1, r2, r3, r4, r5⟩ := hSw; go_simp <;> with_reducible rfl
          simp only [Act.put, List.getElem_toArray, List.getElem_cons_zero, List.getElem_cons_succ, List.setIfInBounds_toArray, List.set_cons_zero, List.set_cons_succ]
          refine wpAnyH_take (i := 7) (v := ?v8x7) rfl (by as_aux_lemma => kernel_rfl) (by as_aux_lemma => kernel_rfl) (by as_aux_lemma => kernel_rfl) (fun _ _ _ h => h) (Or.inl ⟨by rfl, ?hy8x7⟩) (by assumption) ?rest8x7
          case hy8x7 => intro w hSw; obtain ⟨r0, r1, r2, r3, r4, r5⟩ := hSw; go_simp <;> with_reducible rfl
          simp only [Act.put, List.getElem_toArray, List.getElem_cons_zero, List.getElem_cons_succ, List.setIfInBounds_toArray, List.set_cons_zero, List.set_cons_succ]
          refine wpAnyH_take (i := 8) (v := (.int .i64 0)) rfl (by as_aux_lemma => kernel_rfl) (by as_aux_lemma => kernel_rfl) (by as_aux_lemma => kernel_rfl) (fun _ _ _ h => h) (Or.inl ⟨by rfl, ?hy9x8⟩) (by assumption) ?rest9x8
          case hy9x8 => intro w hSw; obtain ⟨r0, r1, r2, r3, r4, r5⟩ := hSw; go_simp <;> with_reducible rfl
          simp only [Act.put, List.getElem_toArray, List.getElem_cons_zero, List.getElem_cons_succ, List.setIfInBounds_toArray, List.set_cons_zero, List.set_cons_succ]
          refine wpAnyH_take (i := 9) (v := (.int .i64 (a : Int))) rfl (by as_aux_lemma => kernel_rfl) (by as_aux_lemma => kernel_rfl) (by as_aux_lemma => kernel_rfl) (fun _ _ _ h => h) (Or.inl ⟨by rfl, ?hy10x9⟩) (by assumption) ?rest10x9
          case hy10x9 => intro w hSw; obtain ⟨r0, r1, r2, r3, r4, r5⟩ := hSw; go_simp <;> with_reducible rfl
          simp only [Act.put, List.getElem_toArray, List.getElem_cons_zero, List.getElem_cons_succ, List.setIfInBounds_toArray, List.set_cons_zero, List.set_cons_succ]
          refine wpAnyH_take (i := 10) (v := ?v11x10) rfl (by as_aux_lemma => kernel_rfl) (by as_aux_lemma => kernel_rfl) (by as_aux_lemma => kernel_rfl) (fun _ _ _ h => h) (Or.inl ⟨by rfl, ?hy11x10⟩) (by assumption) ?rest11x10
          case hy11x10 => intro w hSw; obtain ⟨r0, r1, r2, r3, r4, r5⟩ := hSw; go_simp <;> with_reducible rfl
          simp only [Act.put, List.getElem_toArray, List.getElem_cons_zero, List.getElem_cons_succ, List.setIfInBounds_toArray, List.set_cons_zero, List.set_cons_succ]
          refine wpAnyH_take (i := 11) (v := (.int .i64 (i : Int))) rfl (by as_aux_lemma => kernel_rfl) (by as_aux_lemma => kernel_rfl) (by as_aux_lemma => kernel_rfl) (fun _ _ _ h => h) (Or.inl ⟨by rfl, ?hy12x11⟩) (by assumption) ?rest12x11
          case hy12x11 => intro w hSw; obtain ⟨r0, r1, r2, r3, r4, r5⟩ := hSw; go_simp <;> with_reducible rfl
          simp only [Act.put, List.getElem_toArray, List.getElem_cons_zero, List.getElem_cons_succ, List.setIfInBounds_toArray, List.set_cons_zero, List.set_cons_succ]
          refine wpAnyH_take (i := 12) (v := (.int .i64 (q : Int))) rfl (by as_aux_lemma => kernel_rfl) (by as_aux_lemma => kernel_rfl) (by as_aux_lemma => kernel_rfl) (fun _ _ _ h => h) (Or.inl ⟨by rfl, ?hy13x12⟩) (by assumption) ?rest13x12
          case hy13x12 => intro w hSw; obtain ⟨r0, r1, r2, r3, r4, r5⟩ := hSw; go_simp <;> with_reducible rfl
          simp only [Act.put, List.getElem_toArray, List.getElem_cons_zero, List.getElem_cons_succ, List.setIfInBounds_toArray, List.set_cons_zero, List.set_cons_succ]
          refine wpAnyH_take (i := 13) (v := ?v14x13) rfl (by as_aux_lemma => kernel_rfl) (by as_aux_lemma => kernel_rfl) (by as_aux_lemma => kernel_rfl) (fun _ _ _ h => h) (Or.inl ⟨by rfl, ?hy14x13⟩) (by assumption) ?rest14x13
          case hy14x13 => intro w hSw; obtain ⟨r0, r1, r2, r3, r4, r5⟩ := hSw; go_simp <;> with_reducible rfl
          simp only [Act.put, List.getElem_toArray, List.getElem_cons_zero, List.getElem_cons_succ, List.setIfInBounds_toArray, List.set_cons_zero, List.set_cons_succ]
          refine wpAnyH_take (i := 14) (v := ?v15x14) rfl (by as_aux_lemma => kernel_rfl) (by as_aux_lemma => kernel_rfl) (by as_aux_lemma => kernel_rfl) (fun _ _ _ h => h) (Or.inl ⟨by rfl, ?hy15x14⟩) (by assumption) ?rest15x14
          case hy15x14 => intro w hSw; obtain ⟨r0, r1, r2, r3, r4, r5⟩ := hSw; go_simp <;> with_reducible rfl
          simp only [Act.put, List.getElem_toArray, List.getElem_cons_zero, List.getElem_cons_succ, List.setIfInBounds_toArray, List.set_cons_zero, List.set_cons_succ]
          refine wpAnyH_take (i := 15) (v := ?v16x15) rfl (by as_aux_lemma => kernel_rfl) (by as_aux_lemma => kernel_rfl) (by as_aux_lemma => kernel_rfl) (fun _ _ _ h => h) (Or.inl ⟨by rfl, ?hy16x15⟩) (by assumption) ?rest16x15
          case hy16x15 => intro w hSw; obtain ⟨r0, r1, r2, r3, r4, r5⟩ := hSw; go_simp <;> with_reducible rfl
          simp only [Act.put, List.getElem_toArray, List.getElem_cons_zero, List.getElem_cons_succ, List.setIfInBounds_toArray, List.set_cons_zero, List.set_cons_succ]
          refine wpAnyH_take (i := 16) (v := (.int .i64 (j : Int))) rfl (by as_aux_lemma => kernel_rfl) (by as_aux_lemma => kernel_rfl) (by as_aux_lemma => kernel_rfl) (fun _ _ _ h => h) (Or.inl ⟨by rfl, ?hy17x16⟩) (by assumption) ?rest17x16
          case hy17x16 => intro w hSw; obtain ⟨r0, r1, r2, r3, r4, r5⟩ := hSw; go_simp <;> with_reducible rfl
          simp only [Act.put, List.getElem_toArray, List.getElem_cons_zero, List.getElem_cons_succ, List.setIfInBounds_toArray, List.set_cons_zero, List.set_cons_succ]
          refine wpAnyH_take (i := 17) (v := ?v18x17) rfl (by as_aux_lemma => kernel_rfl) (by as_aux_lemma => kernel_rfl) (by as_aux_lemma => kernel_rfl) (fun _ _ _ h => h) (Or.inl ⟨by rfl, ?hy18x17⟩) (by assumption) ?rest18x17
          case hy18x17 => intro w hSw; obtain ⟨r0, r1, r2, r3, r4, r5⟩ := hSw; go_simp <;> with_reducible rfl
          simp only [Act.put, List.getElem_toArray, List.getElem_cons_zero, List.getElem_cons_succ, List.setIfInBounds_toArray, List.set_cons_zero, List.set_cons_succ]
          refine wpAnyH_take (i := 18) (v := (.agg #[.bool true, .bool false, .slice ba zb.length bc])) rfl (by as_aux_lemma => kernel_rfl) (by as_aux_lemma => kernel_rfl) (by as_aux_lemma => kernel_rfl) (fun _ _ _ h => h) (Or.inl ⟨by rfl, ?hy19x18⟩) (by assumption) ?rest19x18
          case hy19x18 => intro w hSw; obtain ⟨r0, r1, r2, r3, r4, r5⟩ := hSw; go_simp <;> with_reducible rfl
          simp only [Act.put, List.getElem_toArray, List.getElem_cons_zero, List.getElem_cons_succ, List.setIfInBounds_toArray, List.set_cons_zero, List.set_cons_succ]
          refine wpAnyH_ready (rs := [19]) (by as_aux_lemma => kernel_rfl) (by simp) ?_
          refine AllReadyH.cons rfl (fun K hK => ?_) AllReadyH.nil
          go_simp
          refine hK _ _ (unhide HSX _ ((Below.refl _ _).drew.alloc (Nat.le_refl _) _)) ?_
          clear hK hHeld
          intro hHeld
          refine wpAnyH_ready (rs := [20]) (by as_aux_lemma => kernel_rfl) (by simp) ?_
          refine AllReadyH.cons rfl (fun K hK => ?_) AllReadyH.nil
          go_simp
          refine hK _ _ (unhide HSX _ ((Below.refl _ _).alloc (Nat.le_refl _) _).drew) ?_
          clear hK hHeld
          intro hHeld
          refine wpAnyH_done (by as_aux_lemma => kernel_rfl) ?_ _
          obtain ⟨V, hV⟩ : ∃ V, (wr.alloc (.cells #[.bool true, .bool false, .slice ba zb.length bc] 67)).drew = V := ⟨_, rfl⟩
          have bV : Below wr.heap.size wr V := hV ▸ ((Below.refl _ _).alloc (Nat.le_refl _) _).drew
          have z0 : V.cell? ⟨wr.heap.size, 0, none⟩ = some (.bool true) := by rw [← hV]; show (wr.alloc _).cell? _ = _; simp [go_sem]
          have z1 : V.cell? ⟨wr.heap.size, 1, none⟩ = some (.bool false) := by rw [← hV]; show (wr.alloc _).cell? _ = _; simp [go_sem]
          have z2 : V.cell? ⟨wr.heap.size, 2, none⟩ = some (.slice ba zb.length bc) := by rw [← hV]; show (wr.alloc _).cell? _ = _; simp [go_sem]
          have hoV := own_below (unhide HOW) bV
          have hsV := (unhide HSE).below bV
          have hBV : Below B.heap.size B V := (unhide HBr).trans (bV.mono (unhide HBr).size)
          have HBV := hide hBV
          have hVs : w.heap.size + 2 ≤ V.heap.size := by have := hBV.size; have := unhide HSZ; omega
          rw [hV]
          clear bV hBV
          go_wp2_with (at_builtin; refine wpList_append_sees rfl _ _ 33 rfl (w.heap.size + 2) 5 i5 (.int .u8 0) 1 Tryz.underlying33 hi5 hz0 hz1 hz2 rfl _ _ _ rfl hoV .u8 _ zb rfl ?d0 ?d1 ?d2 ?d3 ?_)
          case d0 => exact hsV
          case d1 => have := unhide HAL; unfold maxLen; omega
          case d2 => have := unhide HAL; omega
          case d3 => exact hVs
          intro x2 w2 ho2 hg2
          have ho2 : w2.ownsRow (w.heap.size + 2) 5 1 x2 (acc ++ zb).length (ints .u8 (acc ++ zb)) := by
            rw [List.length_append, show ints .u8 (acc ++ zb) = ints .u8 acc ++ ints .u8 zb by simp [ints]]; exact ho2
          have hB2 : Below B.heap.size B w2 := (unhide HBV).grown hg2 (unhide HBV).size (fun k hk => by have := own_block_le hoV k hk; have := unhide HSZ; omega)
          have HO2 := hide ho2
          have HB2 := hide hB2
          clear ho2 hB2 hg2 hoV hsV z0 z1 z2
          go_wp2
          go_roundw
          case rel => exact ⟨k + 1, acc ++ zb, by omega, by go_num, unhide HO2, by have := unhide HAL; rw [List.length_append]; omega, by rw [unhide HE2, show m * 16 - (k + 1) = mm by have := unhide HMM; omega], unhide HB2⟩
          case measure => simp [intOf]; omega
        · obtain hst | hst : F.st q j = 0 ∨ F.st q j = 1 := by have := Hr.stOk q j hqn hj16; omega
          · skip
            have HACC : Hid (acc = rdL F a m) := by
              show acc = _
              rw [hE, if_pos (hrdE.2 hs)]; simp
            rw [decide_eq_false (show ¬ F.st q j ≠ 0 by rw [hst]; decide)] at p0
            rw [decide_eq_false (show ¬ F.st q j = 1 by rw [hst]; decide)] at p1
            have HSX : Hid (∀ x, Below wr.heap.size wr x → x.cell? ⟨hr, 0, none⟩ = some (.slice (some ⟨gp, 0, none⟩) F.n cp) ∧ x.cell? ⟨w.heap.size, 0, none⟩ = some (.int .i64 a) ∧ x.cell? ⟨gp, q, none⟩ = some (.slice (some ⟨pb q, 0, none⟩) 16 (cb q)) ∧ x.cell? ⟨pb q, j * 3, none⟩ = some (.bool false) ∧ x.cell? ⟨pb q, j * 3 + 1, none⟩ = some (.bool false) ∧ x.cell? ⟨pb q, j * 3 + 2, none⟩ = some (.slice ba bl bc)) := fun x hx =>
              have c : ∀ {p : Addr} {v : Value}, wr.cell? p = some v → x.cell? p = some v := fun h => (hx.cell (World.block_lt_of_cell? wr _ h)).trans h
              ⟨c g0, c q0, c g1, c p0, c p1, c p2⟩
            have HALN : Hid (acc.length ≤ 4194304) := by show _ ≤ _; omega
            clear hown hE hrdE hs hbv Hr hBr hal hmm
            go_wp2_with fail
            refine wp_region_held_drew (S := fun x => x.cell? ⟨hr, 0, none⟩ = some (.slice (some ⟨gp, 0, none⟩) F.n cp) ∧ x.cell? ⟨w.heap.size, 0, none⟩ = some (.int .i64 a) ∧ x.cell? ⟨gp, q, none⟩ = some (.slice (some ⟨pb q, 0, none⟩) 16 (cb q)) ∧ x.cell? ⟨pb q, j * 3, none⟩ = some (.bool false) ∧ x.cell? ⟨pb q, j * 3 + 1, none⟩ = some (.bool false) ∧ x.cell? ⟨pb q, j * 3 + 2, none⟩ = some (.slice ba bl bc)) (by kernel_rfl) ⟨g0, q0, g1, p0, p1, p2⟩ (fun hHeld => ?_)
            refine wpAnyH_take (i := 0) (v := ?v20x0) rfl (by as_aux_lemma => kernel_rfl) (by as_aux_lemma => kernel_rfl) (by as_aux_lemma => kernel_rfl) (fun _ _ _ h => h) (Or.inl ⟨by rfl, ?hy20x0⟩) (by assumption) ?rest20x0
            case hy20x0 => intro w hSw; obtain ⟨r0, r1, r2, r3, r4, r5⟩ := hSw; go_simp <;> with_reducible rfl
            simp only [Act.put, List.getElem_toArray, List.getElem_cons_zero, List.setIfInBounds_toArray, List.set_cons_zero, List.set_cons_succ]
            refine wpAnyH_take (i := 1) (v := ?v21x1) rfl (by as_aux_lemma => kernel_rfl) (by as_aux_lemma => kernel_rfl) (by as_aux_lemma => kernel_rfl) (fun _ _ _ h => h) (Or.inl ⟨by rfl, ?hy21x1⟩) (by assumption) ?rest21x1
            case hy21x1 => intro w hSw; obtain ⟨r0, r1, r2, r3, r4, r5⟩ := hSw; go_simp <;> with_reducible rfl
            simp only [Act.put, List.getElem_toArray, List.getElem_cons_zero, List.getElem_cons_succ, List.setIfInBounds_toArray, List.set_cons_zero, List.set_cons_succ]
            refine wpAnyH_take (i := 2) (v := ?v22x2) rfl (by as_aux_lemma => kernel_rfl) (by as_aux_lemma => kernel_rfl) (by as_aux_lemma => kernel_rfl) (fun _ _ _ h => h) (Or.inl ⟨by rfl, ?hy22x2⟩) (by assumption) ?rest22x2
            case hy22x2 => intro w hSw; obtain ⟨r0, r1, r2, r3, r4, r5⟩ := hSw; go_simp <;> with_reducible rfl
            simp only [Act.put, List.getElem_toArray, List.getElem_cons_zero, List.getElem_cons_succ, List.setIfInBounds_toArray, List.set_cons_zero, List.set_cons_succ]
            refine wpAnyH_take (i := 3) (v := ?v23x3) rfl (by as_aux_lemma => kernel_rfl) (by as_aux_lemma => kernel_rfl) (by as_aux_lemma => kernel_rfl) (fun _ _ _ h => h) (Or.inl ⟨by rfl, ?hy23x3⟩) (by assumption) ?rest23x3
            case hy23x3 => intro w hSw; obtain ⟨r0, r1, r2, r3, r4, r5⟩ := hSw; go_simp <;> with_reducible rfl
            simp only [Act.put, List.getElem_toArray, List.getElem_cons_zero, List.getElem_cons_succ, List.setIfInBounds_toArray, List.set_cons_zero, List.set_cons_succ]
            refine wpAnyH_take (i := 4) (v := ?v24x4) rfl (by as_aux_lemma => kernel_rfl) (by as_aux_lemma => kernel_rfl) (by as_aux_lemma => kernel_rfl) (fun _ _ _ h => h) (Or.inl ⟨by rfl, ?hy24x4⟩) (by assumption) ?rest24x4
            case hy24x4 => intro w hSw; obtain ⟨r0, r1, r2, r3, r4, r5⟩ := hSw; go_simp <;> with_reducible rfl
            simp only [Act.put, List.getElem_toArray, List.getElem_cons_zero, List.getElem_cons_succ, List.setIfInBounds_toArray, List.set_cons_zero, List.set_cons_succ]
            refine wpAnyH_take (i := 5) (v := ?v25x5) rfl (by as_aux_lemma => kernel_rfl) (by as_aux_lemma => kernel_rfl) (by as_aux_lemma => kernel_rfl) (fun _ _ _ h => h) (Or.inl ⟨by rfl, ?hy25x5⟩) (by assumption) ?rest25x5
            case hy25x5 => intro w hSw; obtain ⟨r0, r1, r2, r3, r4, r5⟩ := hSw; go_simp <;> with_reducible rfl
            simp only [Act.put, List.getElem_toArray, List.getElem_cons_zero, List.getElem_cons_succ, List.setIfInBounds_toArray, List.set_cons_zero, List.set_cons_succ]
            refine wpAnyH_take (i := 6) (v := ?v26x6) rfl (by as_aux_lemma => kernel_rfl) (by as_aux_lemma => kernel_rfl) (by as_aux_lemma => kernel_rfl) (fun _ _ _ h => h) (Or.inl ⟨by rfl, ?hy26x6⟩) (by assumption) ?rest26x6
            case hy26x6 => intro w hSw; obtain ⟨r0, r1, r2, r3, r4, r5⟩ := hSw; go_simp <;> with_reducible rfl
            simp only [Act.put, List.getElem_toArray, List.getElem_cons_zero, List.getElem_cons_succ, List.setIfInBounds_toArray, List.set_cons_zero, List.set_cons_succ]
            refine wpAnyH_take (i := 7) (v := ?v27x7) rfl (by as_aux_lemma => kernel_rfl) (by as_aux_lemma => kernel_rfl) (by as_aux_lemma => kernel_rfl) (fun _ _ _ h => h) (Or.inl ⟨by rfl, ?hy27x7⟩) (by assumption) ?rest27x7
            case hy27x7 => intro w hSw; obtain ⟨r0, r1, r2, r3, r4, r5⟩ := hSw; go_simp <;> with_reducible rfl
            simp only [Act.put, List.getElem_toArray, List.getElem_cons_zero, List.getElem_cons_succ, List.setIfInBounds_toArray, List.set_cons_zero, List.set_cons_succ]
            refine wpAnyH_take (i := 8) (v := (.int .i64 0)) rfl (by as_aux_lemma => kernel_rfl) (by as_aux_lemma => kernel_rfl) (by as_aux_lemma => kernel_rfl) (fun _ _ _ h => h) (Or.inl ⟨by rfl, ?hy28x8⟩) (by assumption) ?rest28x8
            case hy28x8 => intro w hSw; obtain ⟨r0, r1, r2, r3, r4, r5⟩ := hSw; go_simp <;> with_reducible rfl
            simp only [Act.put, List.getElem_toArray, List.getElem_cons_zero, List.getElem_cons_succ, List.setIfInBounds_toArray, List.set_cons_zero, List.set_cons_succ]
            refine wpAnyH_take (i := 9) (v := (.int .i64 (a : Int))) rfl (by as_aux_lemma => kernel_rfl) (by as_aux_lemma => kernel_rfl) (by as_aux_lemma => kernel_rfl) (fun _ _ _ h => h) (Or.inl ⟨by rfl, ?hy29x9⟩) (by assumption) ?rest29x9
            case hy29x9 => intro w hSw; obtain ⟨r0, r1, r2, r3, r4, r5⟩ := hSw; go_simp <;> with_reducible rfl
            simp only [Act.put, List.getElem_toArray, List.getElem_cons_zero, List.getElem_cons_succ, List.setIfInBounds_toArray, List.set_cons_zero, List.set_cons_succ]
            refine wpAnyH_take (i := 10) (v := ?v30x10) rfl (by as_aux_lemma => kernel_rfl) (by as_aux_lemma => kernel_rfl) (by as_aux_lemma => kernel_rfl) (fun _ _ _ h => h) (Or.inl ⟨by rfl, ?hy30x10⟩) (by assumption) ?rest30x10
            case hy30x10 => intro w hSw; obtain ⟨r0, r1, r2, r3, r4, r5⟩ := hSw; go_simp <;> with_reducible rfl
            simp only [Act.put, List.getElem_toArray, List.getElem_cons_zero, List.getElem_cons_succ, List.setIfInBounds_toArray, List.set_cons_zero, List.set_cons_succ]
            refine wpAnyH_take (i := 11) (v := (.int .i64 (i : Int))) rfl (by as_aux_lemma => kernel_rfl) (by as_aux_lemma => kernel_rfl) (by as_aux_lemma => kernel_rfl) (fun _ _ _ h => h) (Or.inl ⟨by rfl, ?hy31x11⟩) (by assumption) ?rest31x11
            case hy31x11 => intro w hSw; obtain ⟨r0, r1, r2, r3, r4, r5⟩ := hSw; go_simp <;> with_reducible rfl
            simp only [Act.put, List.getElem_toArray, List.getElem_cons_zero, List.getElem_cons_succ, List.setIfInBounds_toArray, List.set_cons_zero, List.set_cons_succ]
            refine wpAnyH_take (i := 12) (v := (.int .i64 (q : Int))) rfl (by as_aux_lemma => kernel_rfl) (by as_aux_lemma => kernel_rfl) (by as_aux_lemma => kernel_rfl) (fun _ _ _ h => h) (Or.inl ⟨by rfl, ?hy32x12⟩) (by assumption) ?rest32x12
            case hy32x12 => intro w hSw; obtain ⟨r0, r1, r2, r3, r4, r5⟩ := hSw; go_simp <;> with_reducible rfl
            simp only [Act.put, List.getElem_toArray, List.getElem_cons_zero, List.getElem_cons_succ, List.setIfInBounds_toArray, List.set_cons_zero, List.set_cons_succ]
            refine wpAnyH_take (i := 13) (v := ?v33x13) rfl (by as_aux_lemma => kernel_rfl) (by as_aux_lemma => kernel_rfl) (by as_aux_lemma => kernel_rfl) (fun _ _ _ h => h) (Or.inl ⟨by rfl, ?hy33x13⟩) (by assumption) ?rest33x13
            case hy33x13 => intro w hSw; obtain ⟨r0, r1, r2, r3, r4, r5⟩ := hSw; go_simp <;> with_reducible rfl
            simp only [Act.put, List.getElem_toArray, List.getElem_cons_zero, List.getElem_cons_succ, List.setIfInBounds_toArray, List.set_cons_zero, List.set_cons_succ]
            refine wpAnyH_take (i := 14) (v := ?v34x14) rfl (by as_aux_lemma => kernel_rfl) (by as_aux_lemma => kernel_rfl) (by as_aux_lemma => kernel_rfl) (fun _ _ _ h => h) (Or.inl ⟨by rfl, ?hy34x14⟩) (by assumption) ?rest34x14
            case hy34x14 => intro w hSw; obtain ⟨r0, r1, r2, r3, r4, r5⟩ := hSw; go_simp <;> with_reducible rfl
            simp only [Act.put, List.getElem_toArray, List.getElem_cons_zero, List.getElem_cons_succ, List.setIfInBounds_toArray, List.set_cons_zero, List.set_cons_succ]
            refine wpAnyH_take (i := 15) (v := ?v35x15) rfl (by as_aux_lemma => kernel_rfl) (by as_aux_lemma => kernel_rfl) (by as_aux_lemma => kernel_rfl) (fun _ _ _ h => h) (Or.inl ⟨by rfl, ?hy35x15⟩) (by assumption) ?rest35x15
            case hy35x15 => intro w hSw; obtain ⟨r0, r1, r2, r3, r4, r5⟩ := hSw; go_simp <;> with_reducible rfl
            simp only [Act.put, List.getElem_toArray, List.getElem_cons_zero, List.getElem_cons_succ, List.setIfInBounds_toArray, List.set_cons_zero, List.set_cons_succ]
            refine wpAnyH_take (i := 16) (v := (.int .i64 (j : Int))) rfl (by as_aux_lemma => kernel_rfl) (by as_aux_lemma => kernel_rfl) (by as_aux_lemma => kernel_rfl) (fun _ _ _ h => h) (Or.inl ⟨by rfl, ?hy36x16⟩) (by assumption) ?rest36x16
            case hy36x16 => intro w hSw; obtain ⟨r0, r1, r2, r3, r4, r5⟩ := hSw; go_simp <;> with_reducible rfl
            simp only [Act.put, List.getElem_toArray, List.getElem_cons_zero, List.getElem_cons_succ, List.setIfInBounds_toArray, List.set_cons_zero, List.set_cons_succ]
            refine wpAnyH_take (i := 17) (v := ?v37x17) rfl (by as_aux_lemma => kernel_rfl) (by as_aux_lemma => kernel_rfl) (by as_aux_lemma => kernel_rfl) (fun _ _ _ h => h) (Or.inl ⟨by rfl, ?hy37x17⟩) (by assumption) ?rest37x17
            case hy37x17 => intro w hSw; obtain ⟨r0, r1, r2, r3, r4, r5⟩ := hSw; go_simp <;> with_reducible rfl
            simp only [Act.put, List.getElem_toArray, List.getElem_cons_zero, List.getElem_cons_succ, List.setIfInBounds_toArray, List.set_cons_zero, List.set_cons_succ]
            refine wpAnyH_take (i := 18) (v := (.agg #[.bool false, .bool false, .slice ba bl bc])) rfl (by as_aux_lemma => kernel_rfl) (by as_aux_lemma => kernel_rfl) (by as_aux_lemma => kernel_rfl) (fun _ _ _ h => h) (Or.inl ⟨by rfl, ?hy38x18⟩) (by assumption) ?rest38x18
            case hy38x18 => intro w hSw; obtain ⟨r0, r1, r2, r3, r4, r5⟩ := hSw; go_simp <;> with_reducible rfl
            simp only [Act.put, List.getElem_toArray, List.getElem_cons_zero, List.getElem_cons_succ, List.setIfInBounds_toArray, List.set_cons_zero, List.set_cons_succ]
            refine wpAnyH_ready (rs := [19]) (by as_aux_lemma => kernel_rfl) (by simp) ?_
            refine AllReadyH.cons rfl (fun K hK => ?_) AllReadyH.nil
            go_simp
            refine hK _ _ (unhide HSX _ ((Below.refl _ _).drew.alloc (Nat.le_refl _) _)) ?_
            clear hK hHeld
            intro hHeld
            refine wpAnyH_ready (rs := [20]) (by as_aux_lemma => kernel_rfl) (by simp) ?_
            refine AllReadyH.cons rfl (fun K hK => ?_) AllReadyH.nil
            go_simp
            refine hK _ _ (unhide HSX _ ((Below.refl _ _).alloc (Nat.le_refl _) _).drew) ?_
            clear hK hHeld
            intro hHeld
            refine wpAnyH_done (by as_aux_lemma => kernel_rfl) ?_ _
            obtain ⟨V, hV⟩ : ∃ V, (wr.alloc (.cells #[.bool false, .bool false, .slice ba bl bc] 67)).drew = V := ⟨_, rfl⟩
            have bV : Below wr.heap.size wr V := hV ▸ ((Below.refl _ _).alloc (Nat.le_refl _) _).drew
            have z0 : V.cell? ⟨wr.heap.size, 0, none⟩ = some (.bool false) := by rw [← hV]; show (wr.alloc _).cell? _ = _; simp [go_sem]
            have z1 : V.cell? ⟨wr.heap.size, 1, none⟩ = some (.bool false) := by rw [← hV]; show (wr.alloc _).cell? _ = _; simp [go_sem]
            have HON := hide (own_below (unhide HOW) bV)
            have HBN : Hid (Below B.heap.size B V) := (unhide HBr).trans (bV.mono (unhide HBr).size)
            rw [hV]
            clear bV
            obtain ⟨⟨q0, q1⟩, ⟨e0, e1, e2, e3⟩, e4⟩ := unhide HBX V (unhide HBN)
            have HDC := hide (rdecode_any (.slice xa acc.length xc) acc V (sees_of_own (unhide HON)).2 (by rw [unhide HACC]; exact unhide HRB) (by have := unhide HALN; omega))
            rw [unhide HACC] at HDC
            generalize hgc : dec (rdL F a m) = c at HDC
            go_wp2_with fail
            rw [unhide HACC]
            refine (unhide HDC).mono ?_
            rintro e w6 ⟨dv, rfl, o6, b6⟩
            obtain ⟨va, vc, rfl⟩ := own_shape o6
            obtain ⟨W6, hW6⟩ : ∃ W6, w6.alloc (.cells #[.int .i64 c.num, .int .i64 c.slot, .int .i64 c.last, .slice va c.data.length vc] 88) = W6 := ⟨_, rfl⟩
            have bW6 : Below w6.heap.size w6 W6 := hW6 ▸ (Below.refl _ _).alloc (Nat.le_refl _) _
            have b6W : Below V.heap.size V W6 := b6.trans (bW6.mono b6.size)
            have HB6 : Hid (Below B.heap.size B W6) := (unhide HBN).trans (b6W.mono (unhide HBN).size)
            obtain ⟨z0, z1, z2, z3, _⟩ := box4f (w := w6) (w1 := W6) (x0 := .int .i64 c.num) (x1 := .int .i64 c.slot) (x2 := .int .i64 c.last) (x3 := .slice va c.data.length vc) (t := 88) (by rw [hW6]; exact Below.refl _ _)
            have HS6 := hide (own_below o6 bW6)
            have HWB := hide (unhide HW W6 (unhide HB6))
            have HLT : Hid (w.heap.size + 1 < V.heap.size) := by show _ < _; have := (unhide HBN).size; have := unhide HSZ; omega
            clear b6 bW6 b6W o6 q0 q1 e0 e1 e2 e3 e4 HDC
            obtain ⟨⟨q0, q1⟩, ⟨e0, e1, e2, e3⟩, e4⟩ := unhide HBX W6 (unhide HB6)
            go_wp2_with (first | rw [hW6] | fail)
            obtain ⟨k0, k1, k2, k3⟩ := st4_cells (v0 := .int .i64 c.num) (v1 := .int .i64 c.slot) (v2 := .int .i64 c.last) (v3 := .slice va c.data.length vc) e0 e1 e2 e3
            have hbl := st4_below (unhide HWB) (show w.heap.size ≤ w.heap.size + 1 by omega) (.int .i64 c.num) (.int .i64 c.slot) (.int .i64 c.last) (.slice va c.data.length vc)
            have hlt6 := unhide HLT
            have hor := own_set (own_set (own_set (own_set (unhide HS6) (p := ⟨w.heap.size + 1, 0, none⟩) hlt6 (.int .i64 c.num)) (p := ⟨w.heap.size + 1, 1, none⟩) hlt6 (.int .i64 c.slot)) (p := ⟨w.heap.size + 1, 2, none⟩) hlt6 (.int .i64 c.last)) (p := ⟨w.heap.size + 1, 3, none⟩) hlt6 (.slice va c.data.length vc)
            generalize (((W6.setCell ⟨w.heap.size + 1, 0, none⟩ (.int .i64 c.num)).setCell ⟨w.heap.size + 1, 1, none⟩ (.int .i64 c.slot)).setCell ⟨w.heap.size + 1, 2, none⟩ (.int .i64 c.last)).setCell ⟨w.heap.size + 1, 3, none⟩ (.slice va c.data.length vc) = Y at *
            refine bodyPost_ret (v := .tuple #[.agg #[.int .i64 c.num, .int .i64 c.slot, .int .i64 c.last, .slice va c.data.length vc], .bool (decide (c.err = 0))]) (by simp [results, Tryz.results74, go_sem, k0, k1, k2, k3]; rfl) rfl ?_
            rw [hgc]
            exact ⟨_, rfl, own_lower hor (by omega), hbl⟩
          · skip
            have HACC : Hid (acc = rdL F a m) := by
              show acc = _
              rw [hE, if_pos (hrdE.2 hs)]; simp
            rw [decide_eq_true (show F.st q j ≠ 0 by rw [hst]; decide)] at p0
            rw [decide_eq_true hst] at p1
            have HSX : Hid (∀ x, Below wr.heap.size wr x → x.cell? ⟨hr, 0, none⟩ = some (.slice (some ⟨gp, 0, none⟩) F.n cp) ∧ x.cell? ⟨w.heap.size, 0, none⟩ = some (.int .i64 a) ∧ x.cell? ⟨gp, q, none⟩ = some (.slice (some ⟨pb q, 0, none⟩) 16 (cb q)) ∧ x.cell? ⟨pb q, j * 3, none⟩ = some (.bool true) ∧ x.cell? ⟨pb q, j * 3 + 1, none⟩ = some (.bool true) ∧ x.cell? ⟨pb q, j * 3 + 2, none⟩ = some (.slice ba bl bc)) := fun x hx =>
              have c : ∀ {p : Addr} {v : Value}, wr.cell? p = some v → x.cell? p = some v := fun h => (hx.cell (World.block_lt_of_cell? wr _ h)).trans h
              ⟨c g0, c q0, c g1, c p0, c p1, c p2⟩
            have HALN : Hid (acc.length ≤ 4194304) := by show _ ≤ _; omega
            clear hown hE hrdE hs hbv Hr hBr hal hmm
            go_wp2_with fail
            refine wp_region_held_drew (S := fun x => x.cell? ⟨hr, 0, none⟩ = some (.slice (some ⟨gp, 0, none⟩) F.n cp) ∧ x.cell? ⟨w.heap.size, 0, none⟩ = some (.int .i64 a) ∧ x.cell? ⟨gp, q, none⟩ = some (.slice (some ⟨pb q, 0, none⟩) 16 (cb q)) ∧ x.cell? ⟨pb q, j * 3, none⟩ = some (.bool true) ∧ x.cell? ⟨pb q, j * 3 + 1, none⟩ = some (.bool true) ∧ x.cell? ⟨pb q, j * 3 + 2, none⟩ = some (.slice ba bl bc)) (by kernel_rfl) ⟨g0, q0, g1, p0, p1, p2⟩ (fun hHeld => ?_)
            refine wpAnyH_take (i := 0) (v := ?v39x0) rfl (by as_aux_lemma => kernel_rfl) (by as_aux_lemma => kernel_rfl) (by as_aux_lemma => kernel_rfl) (fun _ _ _ h => h) (Or.inl ⟨by rfl, ?hy39x0⟩) (by assumption) ?rest39x0
            case hy39x0 => intro w hSw; obtain ⟨r0, r1, r2, r3, r4, r5⟩ := hSw; go_simp <;> with_reducible rfl
            simp only [Act.put, List.getElem_toArray, List.getElem_cons_zero, List.setIfInBounds_toArray, List.set_cons_zero, List.set_cons_succ]
            refine wpAnyH_take (i := 1) (v := ?v40x1) rfl (by as_aux_lemma => kernel_rfl) (by as_aux_lemma => kernel_rfl) (by as_aux_lemma => kernel_rfl) (fun _ _ _ h => h) (Or.inl ⟨by rfl, ?hy40x1⟩) (by assumption) ?rest40x1
            case hy40x1 => intro w hSw; obtain ⟨r0, r1, r2, r3, r4, r5⟩ := hSw; go_simp <;> with_reducible rfl
            simp only [Act.put, List.getElem_toArray, List.getElem_cons_zero, List.getElem_cons_succ, List.setIfInBounds_toArray, List.set_cons_zero, List.set_cons_succ]
            refine wpAnyH_take (i := 2) (v := ?v41x2) rfl (by as_aux_lemma => kernel_rfl) (by as_aux_lemma => kernel_rfl) (by as_aux_lemma => kernel_rfl) (fun _ _ _ h => h) (Or.inl ⟨by rfl, ?hy41x2⟩) (by assumption) ?rest41x2
            case hy41x2 => intro w hSw; obtain ⟨r0, r1, r2, r3, r4, r5⟩ := hSw; go_simp <;> with_reducible rfl
            simp only [Act.put, List.getElem_toArray, List.getElem_cons_zero, List.getElem_cons_succ, List.setIfInBounds_toArray, List.set_cons_zero, List.set_cons_succ]
            refine wpAnyH_take (i := 3) (v := ?v42x3) rfl (by as_aux_lemma => kernel_rfl) (by as_aux_lemma => kernel_rfl) (by as_aux_lemma => kernel_rfl) (fun _ _ _ h => h) (Or.inl ⟨by rfl, ?hy42x3⟩) (by assumption) ?rest42x3
            case hy42x3 => intro w hSw; obtain ⟨r0, r1, r2, r3, r4, r5⟩ := hSw; go_simp <;> with_reducible rfl
            simp only [Act.put, List.getElem_toArray, List.getElem_cons_zero, List.getElem_cons_succ, List.setIfInBounds_toArray, List.set_cons_zero, List.set_cons_succ]
            refine wpAnyH_take (i := 4) (v := ?v43x4) rfl (by as_aux_lemma => kernel_rfl) (by as_aux_lemma => kernel_rfl) (by as_aux_lemma => kernel_rfl) (fun _ _ _ h => h) (Or.inl ⟨by rfl, ?hy43x4⟩) (by assumption) ?rest43x4
            case hy43x4 => intro w hSw; obtain ⟨r0, r1, r2, r3, r4, r5⟩ := hSw; go_simp <;> with_reducible rfl
            simp only [Act.put, List.getElem_toArray, List.getElem_cons_zero, List.getElem_cons_succ, List.setIfInBounds_toArray, List.set_cons_zero, List.set_cons_succ]
            refine wpAnyH_take (i := 5) (v := ?v44x5) rfl (by as_aux_lemma => kernel_rfl) (by as_aux_lemma => kernel_rfl) (by as_aux_lemma => kernel_rfl) (fun _ _ _ h => h) (Or.inl ⟨by rfl, ?hy44x5⟩) (by assumption) ?rest44x5
            case hy44x5 => intro w hSw; obtain ⟨r0, r1, r2, r3, r4, r5⟩ := hSw; go_simp <;> with_reducible rfl
            simp only [Act.put, List.getElem_toArray, List.getElem_cons_zero, List.getElem_cons_succ, List.setIfInBounds_toArray, List.set_cons_zero, List.set_cons_succ]
            refine wpAnyH_take (i := 6) (v := ?v45x6) rfl (by as_aux_lemma => kernel_rfl) (by as_aux_lemma => kernel_rfl) (by as_aux_lemma => kernel_rfl) (fun _ _ _ h => h) (Or.inl ⟨by rfl, ?hy45x6⟩) (by assumption) ?rest45x6
            case hy45x6 => intro w hSw; obtain ⟨r0, r1, r2, r3, r4, r5⟩ := hSw; go_simp <;> with_reducible rfl
            simp only [Act.put, List.getElem_toArray, List.getElem_cons_zero, List.getElem_cons_succ, List.setIfInBounds_toArray, List.set_cons_zero, List.set_cons_succ]
            refine wpAnyH_take (i := 7) (v := ?v46x7) rfl (by as_aux_lemma => kernel_rfl) (by as_aux_lemma => kernel_rfl) (by as_aux_lemma => kernel_rfl) (fun _ _ _ h => h) (Or.inl ⟨by rfl, ?hy46x7⟩) (by assumption) ?rest46x7
            case hy46x7 => intro w hSw; obtain ⟨r0, r1, r2, r3, r4, r5⟩ := hSw; go_simp <;> with_reducible rfl
            simp only [Act.put, List.getElem_toArray, List.getElem_cons_zero, List.getElem_cons_succ, List.setIfInBounds_toArray, List.set_cons_zero, List.set_cons_succ]
            refine wpAnyH_take (i := 8) (v := (.int .i64 0)) rfl (by as_aux_lemma => kernel_rfl) (by as_aux_lemma => kernel_rfl) (by as_aux_lemma => kernel_rfl) (fun _ _ _ h => h) (Or.inl ⟨by rfl, ?hy47x8⟩) (by assumption) ?rest47x8
            case hy47x8 => intro w hSw; obtain ⟨r0, r1, r2, r3, r4, r5⟩ := hSw; go_simp <;> with_reducible rfl
            simp only [Act.put, List.getElem_toArray, List.getElem_cons_zero, List.getElem_cons_succ, List.setIfInBounds_toArray, List.set_cons_zero, List.set_cons_succ]
            refine wpAnyH_take (i := 9) (v := (.int .i64 (a : Int))) rfl (by as_aux_lemma => kernel_rfl) (by as_aux_lemma => kernel_rfl) (by as_aux_lemma => kernel_rfl) (fun _ _ _ h => h) (Or.inl ⟨by rfl, ?hy48x9⟩) (by assumption) ?rest48x9
            case hy48x9 => intro w hSw; obtain ⟨r0, r1, r2, r3, r4, r5⟩ := hSw; go_simp <;> with_reducible rfl
            simp only [Act.put, List.getElem_toArray, List.getElem_cons_zero, List.getElem_cons_succ, List.setIfInBounds_toArray, List.set_cons_zero, List.set_cons_succ]
            refine wpAnyH_take (i := 10) (v := ?v49x10) rfl (by as_aux_lemma => kernel_rfl) (by as_aux_lemma => kernel_rfl) (by as_aux_lemma => kernel_rfl) (fun _ _ _ h => h) (Or.inl ⟨by rfl, ?hy49x10⟩) (by assumption) ?rest49x10
            case hy49x10 => intro w hSw; obtain ⟨r0, r1, r2, r3, r4, r5⟩ := hSw; go_simp <;> with_reducible rfl
            simp only [Act.put, List.getElem_toArray, List.getElem_cons_zero, List.getElem_cons_succ, List.setIfInBounds_toArray, List.set_cons_zero, List.set_cons_succ]
            refine wpAnyH_take (i := 11) (v := (.int .i64 (i : Int))) rfl (by as_aux_lemma => kernel_rfl) (by as_aux_lemma => kernel_rfl) (by as_aux_lemma => kernel_rfl) (fun _ _ _ h => h) (Or.inl ⟨by rfl, ?hy50x11⟩) (by assumption) ?rest50x11
            case hy50x11 => intro w hSw; obtain ⟨r0, r1, r2, r3, r4, r5⟩ := hSw; go_simp <;> with_reducible rfl
            simp only [Act.put, List.getElem_toArray, List.getElem_cons_zero, List.getElem_cons_succ, List.setIfInBounds_toArray, List.set_cons_zero, List.set_cons_succ]
            refine wpAnyH_take (i := 12) (v := (.int .i64 (q : Int))) rfl (by as_aux_lemma => kernel_rfl) (by as_aux_lemma => kernel_rfl) (by as_aux_lemma => kernel_rfl) (fun _ _ _ h => h) (Or.inl ⟨by rfl, ?hy51x12⟩) (by assumption) ?rest51x12
            case hy51x12 => intro w hSw; obtain ⟨r0, r1, r2, r3, r4, r5⟩ := hSw; go_simp <;> with_reducible rfl
            simp only [Act.put, List.getElem_toArray, List.getElem_cons_zero, List.getElem_cons_succ, List.setIfInBounds_toArray, List.set_cons_zero, List.set_cons_succ]
            refine wpAnyH_take (i := 13) (v := ?v52x13) rfl (by as_aux_lemma => kernel_rfl) (by as_aux_lemma => kernel_rfl) (by as_aux_lemma => kernel_rfl) (fun _ _ _ h => h) (Or.inl ⟨by rfl, ?hy52x13⟩) (by assumption) ?rest52x13
            case hy52x13 => intro w hSw; obtain ⟨r0, r1, r2, r3, r4, r5⟩ := hSw; go_simp <;> with_reducible rfl
            simp only [Act.put, List.getElem_toArray, List.getElem_cons_zero, List.getElem_cons_succ, List.setIfInBounds_toArray, List.set_cons_zero, List.set_cons_succ]
            refine wpAnyH_take (i := 14) (v := ?v53x14) rfl (by as_aux_lemma => kernel_rfl) (by as_aux_lemma => kernel_rfl) (by as_aux_lemma => kernel_rfl) (fun _ _ _ h => h) (Or.inl ⟨by rfl, ?hy53x14⟩) (by assumption) ?rest53x14
            case hy53x14 => intro w hSw; obtain ⟨r0, r1, r2, r3, r4, r5⟩ := hSw; go_simp <;> with_reducible rfl
            simp only [Act.put, List.getElem_toArray, List.getElem_cons_zero, List.getElem_cons_succ, List.setIfInBounds_toArray, List.set_cons_zero, List.set_cons_succ]
            refine wpAnyH_take (i := 15) (v := ?v54x15) rfl (by as_aux_lemma => kernel_rfl) (by as_aux_lemma => kernel_rfl) (by as_aux_lemma => kernel_rfl) (fun _ _ _ h => h) (Or.inl ⟨by rfl, ?hy54x15⟩) (by assumption) ?rest54x15
            case hy54x15 => intro w hSw; obtain ⟨r0, r1, r2, r3, r4, r5⟩ := hSw; go_simp <;> with_reducible rfl
            simp only [Act.put, List.getElem_toArray, List.getElem_cons_zero, List.getElem_cons_succ, List.setIfInBounds_toArray, List.set_cons_zero, List.set_cons_succ]
            refine wpAnyH_take (i := 16) (v := (.int .i64 (j : Int))) rfl (by as_aux_lemma => kernel_rfl) (by as_aux_lemma => kernel_rfl) (by as_aux_lemma => kernel_rfl) (fun _ _ _ h => h) (Or.inl ⟨by rfl, ?hy55x16⟩) (by assumption) ?rest55x16
            case hy55x16 => intro w hSw; obtain ⟨r0, r1, r2, r3, r4, r5⟩ := hSw; go_simp <;> with_reducible rfl
            simp only [Act.put, List.getElem_toArray, List.getElem_cons_zero, List.getElem_cons_succ, List.setIfInBounds_toArray, List.set_cons_zero, List.set_cons_succ]
            refine wpAnyH_take (i := 17) (v := ?v56x17) rfl (by as_aux_lemma => kernel_rfl) (by as_aux_lemma => kernel_rfl) (by as_aux_lemma => kernel_rfl) (fun _ _ _ h => h) (Or.inl ⟨by rfl, ?hy56x17⟩) (by assumption) ?rest56x17
            case hy56x17 => intro w hSw; obtain ⟨r0, r1, r2, r3, r4, r5⟩ := hSw; go_simp <;> with_reducible rfl
            simp only [Act.put, List.getElem_toArray, List.getElem_cons_zero, List.getElem_cons_succ, List.setIfInBounds_toArray, List.set_cons_zero, List.set_cons_succ]
            refine wpAnyH_take (i := 18) (v := (.agg #[.bool true, .bool true, .slice ba bl bc])) rfl (by as_aux_lemma => kernel_rfl) (by as_aux_lemma => kernel_rfl) (by as_aux_lemma => kernel_rfl) (fun _ _ _ h => h) (Or.inl ⟨by rfl, ?hy57x18⟩) (by assumption) ?rest57x18
            case hy57x18 => intro w hSw; obtain ⟨r0, r1, r2, r3, r4, r5⟩ := hSw; go_simp <;> with_reducible rfl
            simp only [Act.put, List.getElem_toArray, List.getElem_cons_zero, List.getElem_cons_succ, List.setIfInBounds_toArray, List.set_cons_zero, List.set_cons_succ]
            refine wpAnyH_ready (rs := [19]) (by as_aux_lemma => kernel_rfl) (by simp) ?_
            refine AllReadyH.cons rfl (fun K hK => ?_) AllReadyH.nil
            go_simp
            refine hK _ _ (unhide HSX _ ((Below.refl _ _).drew.alloc (Nat.le_refl _) _)) ?_
            clear hK hHeld
            intro hHeld
            refine wpAnyH_ready (rs := [20]) (by as_aux_lemma => kernel_rfl) (by simp) ?_
            refine AllReadyH.cons rfl (fun K hK => ?_) AllReadyH.nil
            go_simp
            refine hK _ _ (unhide HSX _ ((Below.refl _ _).alloc (Nat.le_refl _) _).drew) ?_
            clear hK hHeld
            intro hHeld
            refine wpAnyH_done (by as_aux_lemma => kernel_rfl) ?_ _
            obtain ⟨V, hV⟩ : ∃ V, (wr.alloc (.cells #[.bool true, .bool true, .slice ba bl bc] 67)).drew = V := ⟨_, rfl⟩
            have bV : Below wr.heap.size wr V := hV ▸ ((Below.refl _ _).alloc (Nat.le_refl _) _).drew
            have z0 : V.cell? ⟨wr.heap.size, 0, none⟩ = some (.bool true) := by rw [← hV]; show (wr.alloc _).cell? _ = _; simp [go_sem]
            have z1 : V.cell? ⟨wr.heap.size, 1, none⟩ = some (.bool true) := by rw [← hV]; show (wr.alloc _).cell? _ = _; simp [go_sem]
            have HON := hide (own_below (unhide HOW) bV)
            have HBN : Hid (Below B.heap.size B V) := (unhide HBr).trans (bV.mono (unhide HBr).size)
            rw [hV]
            clear bV
            obtain ⟨⟨q0, q1⟩, ⟨e0, e1, e2, e3⟩, e4⟩ := unhide HBX V (unhide HBN)
            have HDC := hide (rdecode_any (.slice xa acc.length xc) acc V (sees_of_own (unhide HON)).2 (by rw [unhide HACC]; exact unhide HRB) (by have := unhide HALN; omega))
            rw [unhide HACC] at HDC
            generalize hgc : dec (rdL F a m) = c at HDC
            go_wp2_with fail
            rw [unhide HACC]
            refine (unhide HDC).mono ?_
            rintro e w6 ⟨dv, rfl, o6, b6⟩
            obtain ⟨va, vc, rfl⟩ := own_shape o6
            obtain ⟨W6, hW6⟩ : ∃ W6, w6.alloc (.cells #[.int .i64 c.num, .int .i64 c.slot, .int .i64 c.last, .slice va c.data.length vc] 88) = W6 := ⟨_, rfl⟩
            have bW6 : Below w6.heap.size w6 W6 := hW6 ▸ (Below.refl _ _).alloc (Nat.le_refl _) _
            have b6W : Below V.heap.size V W6 := b6.trans (bW6.mono b6.size)
            have HB6 : Hid (Below B.heap.size B W6) := (unhide HBN).trans (b6W.mono (unhide HBN).size)
            obtain ⟨z0, z1, z2, z3, _⟩ := box4f (w := w6) (w1 := W6) (x0 := .int .i64 c.num) (x1 := .int .i64 c.slot) (x2 := .int .i64 c.last) (x3 := .slice va c.data.length vc) (t := 88) (by rw [hW6]; exact Below.refl _ _)
            have HS6 := hide (own_below o6 bW6)
            have HWB := hide (unhide HW W6 (unhide HB6))
            have HLT : Hid (w.heap.size + 1 < V.heap.size) := by show _ < _; have := (unhide HBN).size; have := unhide HSZ; omega
            clear b6 bW6 b6W o6 q0 q1 e0 e1 e2 e3 e4 HDC
            obtain ⟨⟨q0, q1⟩, ⟨e0, e1, e2, e3⟩, e4⟩ := unhide HBX W6 (unhide HB6)
            go_wp2_with (first | rw [hW6] | fail)
            obtain ⟨k0, k1, k2, k3⟩ := st4_cells (v0 := .int .i64 c.num) (v1 := .int .i64 c.slot) (v2 := .int .i64 c.last) (v3 := .slice va c.data.length vc) e0 e1 e2 e3
            have hbl := st4_below (unhide HWB) (show w.heap.size ≤ w.heap.size + 1 by omega) (.int .i64 c.num) (.int .i64 c.slot) (.int .i64 c.last) (.slice va c.data.length vc)
            have hlt6 := unhide HLT
            have hor := own_set (own_set (own_set (own_set (unhide HS6) (p := ⟨w.heap.size + 1, 0, none⟩) hlt6 (.int .i64 c.num)) (p := ⟨w.heap.size + 1, 1, none⟩) hlt6 (.int .i64 c.slot)) (p := ⟨w.heap.size + 1, 2, none⟩) hlt6 (.int .i64 c.last)) (p := ⟨w.heap.size + 1, 3, none⟩) hlt6 (.slice va c.data.length vc)
            generalize (((W6.setCell ⟨w.heap.size + 1, 0, none⟩ (.int .i64 c.num)).setCell ⟨w.heap.size + 1, 1, none⟩ (.int .i64 c.slot)).setCell ⟨w.heap.size + 1, 2, none⟩ (.int .i64 c.last)).setCell ⟨w.heap.size + 1, 3, none⟩ (.slice va c.data.length vc) = Y at *
            refine bodyPost_ret (v := .tuple #[.agg #[.int .i64 c.num, .int .i64 c.slot, .int .i64 c.last, .slice va c.data.length vc], .bool (decide (c.err = 0))]) (by simp [results, Tryz.results74, go_sem, k0, k1, k2, k3]; rfl) rfl ?_
            rw [hgc]
            exact ⟨_, rfl, own_lower hor (by omega), hbl⟩
      · have HACC : Hid (acc = rdL F a m) := by
          have h0 : m * 16 - k = 0 := by omega
          rw [h0] at hE
          show acc = _
          rw [hE]; simp [pgs]
        have HON := hide hown
        have HBN := hide hBr
        have HALN : Hid (acc.length ≤ 4194304) := by show _ ≤ _; omega
        clear hown hE hBr hal
        obtain ⟨⟨q0, q1⟩, ⟨e0, e1, e2, e3⟩, e4⟩ := unhide HBX wr (unhide HBN)
        have HDC := hide (rdecode_any (.slice xa acc.length xc) acc wr (sees_of_own (unhide HON)).2 (by rw [unhide HACC]; exact unhide HRB) (by have := unhide HALN; omega))
        rw [unhide HACC] at HDC
        generalize hgc : dec (rdL F a m) = c at HDC
        go_wp2_with fail
        rw [unhide HACC]
        refine (unhide HDC).mono ?_
        rintro e w6 ⟨dv, rfl, o6, b6⟩
        obtain ⟨va, vc, rfl⟩ := own_shape o6
        obtain ⟨W6, hW6⟩ : ∃ W6, w6.alloc (.cells #[.int .i64 c.num, .int .i64 c.slot, .int .i64 c.last, .slice va c.data.length vc] 88) = W6 := ⟨_, rfl⟩
        have bW6 : Below w6.heap.size w6 W6 := hW6 ▸ (Below.refl _ _).alloc (Nat.le_refl _) _
        have b6W : Below wr.heap.size wr W6 := b6.trans (bW6.mono b6.size)
        have HB6 : Hid (Below B.heap.size B W6) := (unhide HBN).trans (b6W.mono (unhide HBN).size)
        obtain ⟨z0, z1, z2, z3, _⟩ := box4f (w := w6) (w1 := W6) (x0 := .int .i64 c.num) (x1 := .int .i64 c.slot) (x2 := .int .i64 c.last) (x3 := .slice va c.data.length vc) (t := 88) (by rw [hW6]; exact Below.refl _ _)
        have HS6 := hide (own_below o6 bW6)
        have HWB := hide (unhide HW W6 (unhide HB6))
        have HLT : Hid (w.heap.size + 1 < wr.heap.size) := by show _ < _; have := (unhide HBN).size; have := unhide HSZ; omega
        clear b6 bW6 b6W o6 q0 q1 e0 e1 e2 e3 e4 HDC
        obtain ⟨⟨q0, q1⟩, ⟨e0, e1, e2, e3⟩, e4⟩ := unhide HBX W6 (unhide HB6)
        go_wp2_with (first | rw [hW6] | fail)
        obtain ⟨k0, k1, k2, k3⟩ := st4_cells (v0 := .int .i64 c.num) (v1 := .int .i64 c.slot) (v2 := .int .i64 c.last) (v3 := .slice va c.data.length vc) e0 e1 e2 e3
        have hbl := st4_below (unhide HWB) (show w.heap.size ≤ w.heap.size + 1 by omega) (.int .i64 c.num) (.int .i64 c.slot) (.int .i64 c.last) (.slice va c.data.length vc)
        have hlt6 := unhide HLT
        have hor := own_set (own_set (own_set (own_set (unhide HS6) (p := ⟨w.heap.size + 1, 0, none⟩) hlt6 (.int .i64 c.num)) (p := ⟨w.heap.size + 1, 1, none⟩) hlt6 (.int .i64 c.slot)) (p := ⟨w.heap.size + 1, 2, none⟩) hlt6 (.int .i64 c.last)) (p := ⟨w.heap.size + 1, 3, none⟩) hlt6 (.slice va c.data.length vc)
        generalize (((W6.setCell ⟨w.heap.size + 1, 0, none⟩ (.int .i64 c.num)).setCell ⟨w.heap.size + 1, 1, none⟩ (.int .i64 c.slot)).setCell ⟨w.heap.size + 1, 2, none⟩ (.int .i64 c.last)).setCell ⟨w.heap.size + 1, 3, none⟩ (.slice va c.data.length vc) = Y at *
        refine bodyPost_ret (v := .tuple #[.agg #[.int .i64 c.num, .int .i64 c.slot, .int .i64 c.last, .slice va c.data.length vc], .bool (decide (c.err = 0))]) (by simp [results, Tryz.results74, go_sem, k0, k1, k2, k3]; rfl) rfl ?_
        rw [hgc]
        exact ⟨_, rfl, own_lower hor (by omega), hbl⟩
  · go_enter Tryz.func74, Tryz.ntmps74
    go_wp2_with (first | rw [hB] | rw [hm'] | fail)
    go_loopw [9, 10] (fun v c wr => ∃ (k : Nat) (acc : List Int), k ≤ m * 16 ∧ c = .int .i64 k ∧ wr.ownsRow (w.heap.size + 2) 5 1 v acc.length (ints .u8 acc) ∧ acc.length ≤ k * 256 ∧ rdL F (f + m) m = acc ++ (pgs F (f + m) k (m * 16 - k)).flatten ∧ Below B.heap.size B wr) (fun _ c _ => m * 16 - (intOf c).toNat)
    case atStart => exact ⟨0, [], by omega, rfl, World.ownsRow_nil _ _ _ _, by simp, by simp [rdL], Below.refl _ _⟩
    case round =>
      obtain ⟨k, acc, hk, rfl, hown, hal, hE, hBr⟩ := hrel
      obtain ⟨xa, xc, rfl⟩ := own_shape hown
      have hk40 : k ≤ 16384 := by omega
      by_cases hlt : k < m * 16
      · obtain ⟨i, hi⟩ : ∃ i : Nat, (k : Int) / 16 = i := ⟨k / 16, by omega⟩
        obtain ⟨j, hj⟩ : ∃ j : Nat, (k : Int) % 16 = j := ⟨k % 16, by omega⟩
        obtain ⟨q, hq⟩ : ∃ q : Nat, ((f : Int) + (m : Int)) + (i : Int) = q := ⟨(f + m) + i, by omega⟩
        have hqn : q < F.n := by omega
        have hw0 : IntKind.i64.wrap 0 = 0 := rfl
        have hwi : IntKind.i64.wrap (i : Int) = (i : Int) := by rw [IntKind.wrap_i64]; omega
        have hwq : IntKind.i64.wrap (q : Int) = (q : Int) := by rw [IntKind.wrap_i64]; omega
        have hwm : IntKind.i64.wrap (m : Int) = (m : Int) := by rw [IntKind.wrap_i64]; omega
        have hwa : IntKind.i64.wrap ((f : Int) + (m : Int)) = ((f : Int) + (m : Int)) := by rw [IntKind.wrap_i64]; omega
        have hj16 : j < 16 := by omega
        have hjt : (k : Int).tmod 16 = (j : Int) := by rw [Int.tmod_eq_emod_of_nonneg (by omega)]; exact hj
        have hjI : (j : Int) < 16 := by omega
        have hqI : (q : Int) < (F.n : Int) := by omega
        have hwj : IntKind.i64.wrap (j : Int) = (j : Int) := by rw [IntKind.wrap_i64]; omega
        have Hr := unhide HH wr hBr
        obtain ⟨p0, p1, p2⟩ := Hr.cells q hqn j hj16
        have g0 := Hr.c0
        have g1 := Hr.page q hqn
        have g2 := Hr.room q hqn
        have g3 := Hr.fitp
        obtain ⟨ba, bl, bc, hbv⟩ := Hr.shape q j hqn hj16
        rw [hbv] at p2
        obtain ⟨mm, hmm⟩ : ∃ mm, m * 16 - k = mm + 1 := ⟨m * 16 - k - 1, by omega⟩
        rw [hmm, pgs_succ, show (f + m) + k / 16 = q by omega, show k % 16 = j by omega] at hE
        have hrdE := Hr.readE hd q j hqn hj16
        have HOW := hide hown
        have HBr := hide hBr
        obtain ⟨⟨q0, q1⟩, _, _⟩ := unhide HBX wr hBr
        by_cases hs : F.st q j = 2
        · have hE2 : rdL F (f + m) m = (acc ++ bytesOf (F.bs q j)) ++ (pgs F (f + m) (k + 1) mm).flatten := by
            rw [hE, if_neg (fun c => (hrdE.1 c) hs), List.flatten_cons, Hr.readB hd q j hqn hj16 hs, List.append_assoc]
          have HE2 := hide hE2
          have hsz : (bytesOf (F.bs q j)).length = 256 := by rw [bytesOf_len]; exact Hr.full q j hqn hj16 hs
          have HSE := hide (Hr.bytes q j hqn hj16 hs).1
          rw [hbv] at HSE
          rw [decide_eq_true (show F.st q j ≠ 0 by rw [hs]; decide)] at p0
          rw [decide_eq_false (show ¬ F.st q j = 1 by rw [hs]; decide)] at p1
          generalize bytesOf (F.bs q j) = zb at HE2 hsz HSE
          obtain rfl : bl = zb.length := by obtain ⟨_, _, e, _⟩ := unhide HSE; simp only [Value.slice.injEq] at e; exact e.2.1
          have HAL := hide (And.intro hal hsz)
          have HSX : Hid (∀ x, Below wr.heap.size wr x → x.cell? ⟨hr, 0, none⟩ = some (.slice (some ⟨gp, 0, none⟩) F.n cp) ∧ x.cell? ⟨w.heap.size, 0, none⟩ = some (.int .i64 f) ∧ x.cell? ⟨gp, q, none⟩ = some (.slice (some ⟨pb q, 0, none⟩) 16 (cb q)) ∧ x.cell? ⟨pb q, j * 3, none⟩ = some (.bool true) ∧ x.cell? ⟨pb q, j * 3 + 1, none⟩ = some (.bool false) ∧ x.cell? ⟨pb q, j * 3 + 2, none⟩ = some (.slice ba zb.length bc)) := fun x hx =>
            have c : ∀ {p : Addr} {v : Value}, wr.cell? p = some v → x.cell? p = some v := fun h => (hx.cell (World.block_lt_of_cell? wr _ h)).trans h
            ⟨c g0, c q0, c g1, c p0, c p1, c p2⟩
          have HMM := hide hmm
          clear hown hE hE2 hrdE hs hbv Hr hBr hal hsz hmm
          go_wp2_with fail
          refine wp_region_held_drew (S := fun x => x.cell? ⟨hr, 0, none⟩ = some (.slice (some ⟨gp, 0, none⟩) F.n cp) ∧ x.cell? ⟨w.heap.size, 0, none⟩ = some (.int .i64 f) ∧ x.cell? ⟨gp, q, none⟩ = some (.slice (some ⟨pb q, 0, none⟩) 16 (cb q)) ∧ x.cell? ⟨pb q, j * 3, none⟩ = some (.bool true) ∧ x.cell? ⟨pb q, j * 3 + 1, none⟩ = some (.bool false) ∧ x.cell? ⟨pb q, j * 3 + 2, none⟩ = some (.slice ba zb.length bc)) (by kernel_rfl) ⟨g0, q0, g1, p0, p1, p2⟩ (fun hHeld => ?_)
          refine wpAnyH_take (i := 0) (v := ?v58x0) rfl (by as_aux_lemma => kernel_rfl) (by as_aux_lemma => kernel_rfl) (by as_aux_lemma => kernel_rfl) (fun _ _ _ h => h) (Or.inl ⟨by rfl, ?hy58x0⟩) (by assumption) ?rest58x0
          case hy58x0 => intro w hSw; obtain ⟨r0, r1, r2, r3, r4, r5⟩ := hSw; go_simp <;> with_reducible rfl
          simp only [Act.put, List.getElem_toArray, List.getElem_cons_zero, List.setIfInBounds_toArray, List.set_cons_zero, List.set_cons_succ]
          refine wpAnyH_take (i := 1) (v := ?v59x1) rfl (by as_aux_lemma => kernel_rfl) (by as_aux_lemma => kernel_rfl) (by as_aux_lemma => kernel_rfl) (fun _ _ _ h => h) (Or.inl ⟨by rfl, ?hy59x1⟩) (by assumption) ?rest59x1
          case hy59x1 => intro w hSw; obtain ⟨r0, r1, r2, r3, r4, r5⟩ := hSw; go_simp <;> with_reducible rfl
          simp only [Act.put, List.getElem_toArray, List.getElem_cons_zero, List.getElem_cons_succ, List.setIfInBounds_toArray, List.set_cons_zero, List.set_cons_succ]
          refine wpAnyH_take (i := 2) (v := ?v60x2) rfl (by as_aux_lemma => kernel_rfl) (by as_aux_lemma => kernel_rfl) (by as_aux_lemma => kernel_rfl) (fun _ _ _ h => h) (Or.inl ⟨by rfl, ?hy60x2⟩) (by assumption) ?rest60x2
          case hy60x2 => intro w hSw; obtain ⟨r0, r1, r2, r3, r4, r5⟩ := hSw; go_simp <;> with_reducible rfl
          simp only [Act.put, List.getElem_toArray, List.getElem_cons_zero, List.getElem_cons_succ, List.setIfInBounds_toArray, List.set_cons_zero, List.set_cons_succ]
          refine wpAnyH_take (i := 3) (v := ?v61x3) rfl (by as_aux_lemma => kernel_rfl) (by as_aux_lemma => kernel_rfl) (by as_aux_lemma => kernel_rfl) (fun _ _ _ h => h) (Or.inl ⟨by rfl, ?hy61x3⟩) (by assumption) ?rest61x3
          case hy61x3 => intro w hSw; obtain ⟨r0, r1, r2, r3, r4, r5⟩ := hSw; go_simp <;> with_reducible rfl
          simp only [Act.put, List.getElem_toArray, List.getElem_cons_zero, List.getElem_cons_succ, List.setIfInBounds_toArray, List.set_cons_zero, List.set_cons_succ]
          refine wpAnyH_take (i := 4) (v := ?v62x4) rfl (by as_aux_lemma => kernel_rfl) (by as_aux_lemma => kernel_rfl) (by as_aux_lemma => kernel_rfl) (fun _ _ _ h => h) (Or.inl ⟨by rfl, ?hy62x4⟩) (by assumption) ?rest62x4
          case hy62x4 => intro w hSw; obtain ⟨r0, r1, r2, r3, r4, r5⟩ := hSw; go_simp <;> with_reducible rfl
          simp only [Act.put, List.getElem_toArray, List.getElem_cons_zero, List.getElem_cons_succ, List.setIfInBounds_toArray, List.set_cons_zero, List.set_cons_succ]
          refine wpAnyH_take (i := 5) (v := ?v63x5) rfl (by as_aux_lemma => kernel_rfl) (by as_aux_lemma => kernel_rfl) (by as_aux_lemma => kernel_rfl) (fun _ _ _ h => h) (Or.inl ⟨by rfl, ?hy63x5⟩) (by assumption) ?rest63x5
          case hy63x5 => intro w hSw; obtain ⟨r0, r1, r2, r3, r4, r5⟩ := hSw; go_simp <;> with_reducible rfl
          simp only [Act.put, List.getElem_toArray, List.getElem_cons_zero, List.getElem_cons_succ, List.setIfInBounds_toArray, List.set_cons_zero, List.set_cons_succ]
          refine wpAnyH_take (i := 6) (v := ?v64x6) rfl (by as_aux_lemma => kernel_rfl) (by as_aux_lemma => kernel_rfl) (by as_aux_lemma => kernel_rfl) (fun _ _ _ h => h) (Or.inl ⟨by rfl, ?hy64x6⟩) (by assumption) ?rest64x6
          case hy64x6 => intro w hSw; obtain ⟨r0, r1, r2, r3, r4, r5⟩ := hSw; go_simp <;> with_reducible rfl
          simp only [Act.put, List.getElem_toArray, List.getElem_cons_zero, List.getElem_cons_succ, List.setIfInBounds_toArray, List.set_cons_zero, List.set_cons_succ]
          refine wpAnyH_take (i := 7) (v := ?v65x7) rfl (by as_aux_lemma => kernel_rfl) (by as_aux_lemma => kernel_rfl) (by as_aux_lemma => kernel_rfl) (fun _ _ _ h => h) (Or.inl ⟨by rfl, ?hy65x7⟩) (by assumption) ?rest65x7
          case hy65x7 => intro w hSw; obtain ⟨r0, r1, r2, r3, r4, r5⟩ := hSw; go_simp <;> with_reducible rfl
          simp only [Act.put, List.getElem_toArray, List.getElem_cons_zero, List.getElem_cons_succ, List.setIfInBounds_toArray, List.set_cons_zero, List.set_cons_succ]
          refine wpAnyH_take (i := 8) (v := (.int .i64 (m : Int))) rfl (by as_aux_lemma => kernel_rfl) (by as_aux_lemma => kernel_rfl) (by as_aux_lemma => kernel_rfl) (fun _ _ _ h => h) (Or.inl ⟨by rfl, ?hy66x8⟩) (by assumption) ?rest66x8
          case hy66x8 => intro w hSw; obtain ⟨r0, r1, r2, r3, r4, r5⟩ := hSw; go_simp <;> with_reducible rfl
          simp only [Act.put, List.getElem_toArray, List.getElem_cons_zero, List.getElem_cons_succ, List.setIfInBounds_toArray, List.set_cons_zero, List.set_cons_succ]
          refine wpAnyH_take (i := 9) (v := (.int .i64 ((f : Int) + (m : Int)))) rfl (by as_aux_lemma => kernel_rfl) (by as_aux_lemma => kernel_rfl) (by as_aux_lemma => kernel_rfl) (fun _ _ _ h => h) (Or.inl ⟨by rfl, ?hy67x9⟩) (by assumption) ?rest67x9
          case hy67x9 => intro w hSw; obtain ⟨r0, r1, r2, r3, r4, r5⟩ := hSw; go_simp <;> with_reducible rfl
          simp only [Act.put, List.getElem_toArray, List.getElem_cons_zero, List.getElem_cons_succ, List.setIfInBounds_toArray, List.set_cons_zero, List.set_cons_succ]
          refine wpAnyH_take (i := 10) (v := ?v68x10) rfl (by as_aux_lemma => kernel_rfl) (by as_aux_lemma => kernel_rfl) (by as_aux_lemma => kernel_rfl) (fun _ _ _ h => h) (Or.inl ⟨by rfl, ?hy68x10⟩) (by assumption) ?rest68x10
          case hy68x10 => intro w hSw; obtain ⟨r0, r1, r2, r3, r4, r5⟩ := hSw; go_simp <;> with_reducible rfl
          simp only [Act.put, List.getElem_toArray, List.getElem_cons_zero, List.getElem_cons_succ, List.setIfInBounds_toArray, List.set_cons_zero, List.set_cons_succ]
          refine wpAnyH_take (i := 11) (v := (.int .i64 (i : Int))) rfl (by as_aux_lemma => kernel_rfl) (by as_aux_lemma => kernel_rfl) (by as_aux_lemma => kernel_rfl) (fun _ _ _ h => h) (Or.inl ⟨by rfl, ?hy69x11⟩) (by assumption) ?rest69x11
          case hy69x11 => intro w hSw; obtain ⟨r0, r1, r2, r3, r4, r5⟩ := hSw; go_simp <;> with_reducible rfl
          simp only [Act.put, List.getElem_toArray, List.getElem_cons_zero, List.getElem_cons_succ, List.setIfInBounds_toArray, List.set_cons_zero, List.set_cons_succ]
          refine wpAnyH_take (i := 12) (v := (.int .i64 (q : Int))) rfl (by as_aux_lemma => kernel_rfl) (by as_aux_lemma => kernel_rfl) (by as_aux_lemma => kernel_rfl) (fun _ _ _ h => h) (Or.inl ⟨by rfl, ?hy70x12⟩) (by assumption) ?rest70x12
          case hy70x12 => intro w hSw; obtain ⟨r0, r1, r2, r3, r4, r5⟩ := hSw; go_simp <;> with_reducible rfl
          simp only [Act.put, List.getElem_toArray, List.getElem_cons_zero, List.getElem_cons_succ, List.setIfInBounds_toArray, List.set_cons_zero, List.set_cons_succ]
          refine wpAnyH_take (i := 13) (v := ?v71x13) rfl (by as_aux_lemma => kernel_rfl) (by as_aux_lemma => kernel_rfl) (by as_aux_lemma => kernel_rfl) (fun _ _ _ h => h) (Or.inl ⟨by rfl, ?hy71x13⟩) (by assumption) ?rest71x13
          case hy71x13 => intro w hSw; obtain ⟨r0, r1, r2, r3, r4, r5⟩ := hSw; go_simp <;> with_reducible rfl
          simp only [Act.put, List.getElem_toArray, List.getElem_cons_zero, List.getElem_cons_succ, List.setIfInBounds_toArray, List.set_cons_zero, List.set_cons_succ]
          refine wpAnyH_take (i := 14) (v := ?v72x14) rfl (by as_aux_lemma => kernel_rfl) (by as_aux_lemma => kernel_rfl) (by as_aux_lemma => kernel_rfl) (fun _ _ _ h => h) (Or.inl ⟨by rfl, ?hy72x14⟩) (by assumption) ?rest72x14
          case hy72x14 => intro w hSw; obtain ⟨r0, r1, r2, r3, r4, r5⟩ := hSw; go_simp <;> with_reducible rfl
          simp only [Act.put, List.getElem_toArray, List.getElem_cons_zero, List.getElem_cons_succ, List.setIfInBounds_toArray, List.set_cons_zero, List.set_cons_succ]
          refine wpAnyH_take (i := 15) (v := ?v73x15) rfl (by as_aux_lemma => kernel_rfl) (by as_aux_lemma => kernel_rfl) (by as_aux_lemma => kernel_rfl) (fun _ _ _ h => h) (Or.inl ⟨by rfl, ?hy73x15⟩) (by assumption) ?rest73x15
          case hy73x15 => intro w hSw; obtain ⟨r0, r1, r2, r3, r4, r5⟩ := hSw; go_simp <;> with_reducible rfl
          simp only [Act.put, List.getElem_toArray, List.getElem_cons_zero, List.getElem_cons_succ, List.setIfInBounds_toArray, List.set_cons_zero, List.set_cons_succ]
          refine wpAnyH_take (i := 16) (v := (.int .i64 (j : Int))) rfl (by as_aux_lemma => kernel_rfl) (by as_aux_lemma => kernel_rfl) (by as_aux_lemma => kernel_rfl) (fun _ _ _ h => h) (Or.inl ⟨by rfl, ?hy74x16⟩) (by assumption) ?rest74x16
          case hy74x16 => intro w hSw; obtain ⟨r0, r1, r2, r3, r4, r5⟩ := hSw; go_simp <;> with_reducible rfl
          simp only [Act.put, List.getElem_toArray, List.getElem_cons_zero, List.getElem_cons_succ, List.setIfInBounds_toArray, List.set_cons_zero, List.set_cons_succ]
          refine wpAnyH_take (i := 17) (v := ?v75x17) rfl (by as_aux_lemma => kernel_rfl) (by as_aux_lemma => kernel_rfl) (by as_aux_lemma => kernel_rfl) (fun _ _ _ h => h) (Or.inl ⟨by rfl, ?hy75x17⟩) (by assumption) ?rest75x17
          case hy75x17 => intro w hSw; obtain ⟨r0, r1, r2, r3, r4, r5⟩ := hSw; go_simp <;> with_reducible rfl
          simp only [Act.put, List.getElem_toArray, List.getElem_cons_zero, List.getElem_cons_succ, List.setIfInBounds_toArray, List.set_cons_zero, List.set_cons_succ]
          refine wpAnyH_take (i := 18) (v := (.agg #[.bool true, .bool false, .slice ba zb.length bc])) rfl (by as_aux_lemma => kernel_rfl) (by as_aux_lemma => kernel_rfl) (by as_aux_lemma => kernel_rfl) (fun _ _ _ h => h) (Or.inl ⟨by rfl, ?hy76x18⟩) (by assumption) ?rest76x18
          case hy76x18 => intro w hSw; obtain ⟨r0, r1, r2, r3, r4, r5⟩ := hSw; go_simp <;> with_reducible rfl
          simp only [Act.put, List.getElem_toArray, List.getElem_cons_zero, List.getElem_cons_succ, List.setIfInBounds_toArray, List.set_cons_zero, List.set_cons_succ]
          refine wpAnyH_ready (rs := [19]) (by as_aux_lemma => kernel_rfl) (by simp) ?_
          refine AllReadyH.cons rfl (fun K hK => ?_) AllReadyH.nil
          go_simp
          refine hK _ _ (unhide HSX _ ((Below.refl _ _).drew.alloc (Nat.le_refl _) _)) ?_
          clear hK hHeld
          intro hHeld
          refine wpAnyH_ready (rs := [20]) (by as_aux_lemma => kernel_rfl) (by simp) ?_
          refine AllReadyH.cons rfl (fun K hK => ?_) AllReadyH.nil
          go_simp
          refine hK _ _ (unhide HSX _ ((Below.refl _ _).alloc (Nat.le_refl _) _).drew) ?_
          clear hK hHeld
          intro hHeld
          refine wpAnyH_done (by as_aux_lemma => kernel_rfl) ?_ _
          obtain ⟨V, hV⟩ : ∃ V, (wr.alloc (.cells #[.bool true, .bool false, .slice ba zb.length bc] 67)).drew = V := ⟨_, rfl⟩
          have bV : Below wr.heap.size wr V := hV ▸ ((Below.refl _ _).alloc (Nat.le_refl _) _).drew
          have z0 : V.cell? ⟨wr.heap.size, 0, none⟩ = some (.bool true) := by rw [← hV]; show (wr.alloc _).cell? _ = _; simp [go_sem]
          have z1 : V.cell? ⟨wr.heap.size, 1, none⟩ = some (.bool false) := by rw [← hV]; show (wr.alloc _).cell? _ = _; simp [go_sem]
          have z2 : V.cell? ⟨wr.heap.size, 2, none⟩ = some (.slice ba zb.length bc) := by rw [← hV]; show (wr.alloc _).cell? _ = _; simp [go_sem]
          have hoV := own_below (unhide HOW) bV
          have hsV := (unhide HSE).below bV
          have hBV : Below B.heap.size B V := (unhide HBr).trans (bV.mono (unhide HBr).size)
          have HBV := hide hBV
          have hVs : w.heap.size + 2 ≤ V.heap.size := by have := hBV.size; have := unhide HSZ; omega
          rw [hV]
          clear bV hBV
          go_wp2_with (at_builtin; refine wpList_append_sees rfl _ _ 33 rfl (w.heap.size + 2) 5 i5 (.int .u8 0) 1 Tryz.underlying33 hi5 hz0 hz1 hz2 rfl _ _ _ rfl hoV .u8 _ zb rfl ?d0 ?d1 ?d2 ?d3 ?_)
          case d0 => exact hsV
          case d1 => have := unhide HAL; unfold maxLen; omega
          case d2 => have := unhide HAL; omega
          case d3 => exact hVs
          intro x2 w2 ho2 hg2
          have ho2 : w2.ownsRow (w.heap.size + 2) 5 1 x2 (acc ++ zb).length (ints .u8 (acc ++ zb)) := by
            rw [List.length_append, show ints .u8 (acc ++ zb) = ints .u8 acc ++ ints .u8 zb by simp [ints]]; exact ho2
          have hB2 : Below B.heap.size B w2 := (unhide HBV).grown hg2 (unhide HBV).size (fun k hk => by have := own_block_le hoV k hk; have := unhide HSZ; omega)
          have HO2 := hide ho2
          have HB2 := hide hB2
          clear ho2 hB2 hg2 hoV hsV z0 z1 z2
          go_wp2
          go_roundw
          case rel => exact ⟨k + 1, acc ++ zb, by omega, by go_num, unhide HO2, by have := unhide HAL; rw [List.length_append]; omega, by rw [unhide HE2, show m * 16 - (k + 1) = mm by have := unhide HMM; omega], unhide HB2⟩
          case measure => simp [intOf]; omega
        · obtain hst | hst : F.st q j = 0 ∨ F.st q j = 1 := by have := Hr.stOk q j hqn hj16; omega
          · skip
            have HACC : Hid (acc = rdL F (f + m) m) := by
              show acc = _
              rw [hE, if_pos (hrdE.2 hs)]; simp
            rw [decide_eq_false (show ¬ F.st q j ≠ 0 by rw [hst]; decide)] at p0
            rw [decide_eq_false (show ¬ F.st q j = 1 by rw [hst]; decide)] at p1
            have HSX : Hid (∀ x, Below wr.heap.size wr x → x.cell? ⟨hr, 0, none⟩ = some (.slice (some ⟨gp, 0, none⟩) F.n cp) ∧ x.cell? ⟨w.heap.size, 0, none⟩ = some (.int .i64 f) ∧ x.cell? ⟨gp, q, none⟩ = some (.slice (some ⟨pb q, 0, none⟩) 16 (cb q)) ∧ x.cell? ⟨pb q, j * 3, none⟩ = some (.bool false) ∧ x.cell? ⟨pb q, j * 3 + 1, none⟩ = some (.bool false) ∧ x.cell? ⟨pb q, j * 3 + 2, none⟩ = some (.slice ba bl bc)) := fun x hx =>
              have c : ∀ {p : Addr} {v : Value}, wr.cell? p = some v → x.cell? p = some v := fun h => (hx.cell (World.block_lt_of_cell? wr _ h)).trans h
              ⟨c g0, c q0, c g1, c p0, c p1, c p2⟩
            have HALN : Hid (acc.length ≤ 4194304) := by show _ ≤ _; omega
            clear hown hE hrdE hs hbv Hr hBr hal hmm
            go_wp2_with fail
            refine wp_region_held_drew (S := fun x => x.cell? ⟨hr, 0, none⟩ = some (.slice (some ⟨gp, 0, none⟩) F.n cp) ∧ x.cell? ⟨w.heap.size, 0, none⟩ = some (.int .i64 f) ∧ x.cell? ⟨gp, q, none⟩ = some (.slice (some ⟨pb q, 0, none⟩) 16 (cb q)) ∧ x.cell? ⟨pb q, j * 3, none⟩ = some (.bool false) ∧ x.cell? ⟨pb q, j * 3 + 1, none⟩ = some (.bool false) ∧ x.cell? ⟨pb q, j * 3 + 2, none⟩ = some (.slice ba bl bc)) (by kernel_rfl) ⟨g0, q0, g1, p0, p1, p2⟩ (fun hHeld => ?_)
            refine wpAnyH_take (i := 0) (v := ?v77x0) rfl (by as_aux_lemma => kernel_rfl) (by as_aux_lemma => kernel_rfl) (by as_aux_lemma => kernel_rfl) (fun _ _ _ h => h) (Or.inl ⟨by rfl, ?hy77x0⟩) (by assumption) ?rest77x0
            case hy77x0 => intro w hSw; obtain ⟨r0, r1, r2, r3, r4, r5⟩ := hSw; go_simp <;> with_reducible rfl
            simp only [Act.put, List.getElem_toArray, List.getElem_cons_zero, List.setIfInBounds_toArray, List.set_cons_zero, List.set_cons_succ]
            refine wpAnyH_take (i := 1) (v := ?v78x1) rfl (by as_aux_lemma => kernel_rfl) (by as_aux_lemma => kernel_rfl) (by as_aux_lemma => kernel_rfl) (fun _ _ _ h => h) (Or.inl ⟨by rfl, ?hy78x1⟩) (by assumption) ?rest78x1
            case hy78x1 => intro w hSw; obtain ⟨r0, r1, r2, r3, r4, r5⟩ := hSw; go_simp <;> with_reducible rfl
            simp only [Act.put, List.getElem_toArray, List.getElem_cons_zero, List.getElem_cons_succ, List.setIfInBounds_toArray, List.set_cons_zero, List.set_cons_succ]
            refine wpAnyH_take (i := 2) (v := ?v79x2) rfl (by as_aux_lemma => kernel_rfl) (by as_aux_lemma => kernel_rfl) (by as_aux_lemma => kernel_rfl) (fun _ _ _ h => h) (Or.inl ⟨by rfl, ?hy79x2⟩) (by assumption) ?rest79x2
            case hy79x2 => intro w hSw; obtain ⟨r0, r1, r2, r3, r4, r5⟩ := hSw; go_simp <;> with_reducible rfl
            simp only [Act.put, List.getElem_toArray, List.getElem_cons_zero, List.getElem_cons_succ, List.setIfInBounds_toArray, List.set_cons_zero, List.set_cons_succ]
            refine wpAnyH_take (i := 3) (v := ?v80x3) rfl (by as_aux_lemma => kernel_rfl) (by as_aux_lemma => kernel_rfl) (by as_aux_lemma => kernel_rfl) (fun _ _ _ h => h) (Or.inl ⟨by rfl, ?hy80x3⟩) (by assumption) ?rest80x3
            case hy80x3 => intro w hSw; obtain ⟨r0, r1, r2, r3, r4, r5⟩ := hSw; go_simp <;> with_reducible rfl
            simp only [Act.put, List.getElem_toArray, List.getElem_cons_zero, List.getElem_cons_succ, List.setIfInBounds_toArray, List.set_cons_zero, List.set_cons_succ]
            refine wpAnyH_take (i := 4) (v := ?v81x4) rfl (by as_aux_lemma => kernel_rfl) (by as_aux_lemma => kernel_rfl) (by as_aux_lemma => kernel_rfl) (fun _ _ _ h => h) (Or.inl ⟨by rfl, ?hy81x4⟩) (by assumption) ?rest81x4
            case hy81x4 => intro w hSw; obtain ⟨r0, r1, r2, r3, r4, r5⟩ := hSw; go_simp <;> with_reducible rfl
            simp only [Act.put, List.getElem_toArray, List.getElem_cons_zero, List.getElem_cons_succ, List.setIfInBounds_toArray, List.set_cons_zero, List.set_cons_succ]
            refine wpAnyH_take (i := 5) (v := ?v82x5) rfl (by as_aux_lemma => kernel_rfl) (by as_aux_lemma => kernel_rfl) (by as_aux_lemma => kernel_rfl) (fun _ _ _ h => h) (Or.inl ⟨by rfl, ?hy82x5⟩) (by assumption) ?rest82x5
            case hy82x5 => intro w hSw; obtain ⟨r0, r1, r2, r3, r4, r5⟩ := hSw; go_simp <;> with_reducible rfl
            simp only [Act.put, List.getElem_toArray, List.getElem_cons_zero, List.getElem_cons_succ, List.setIfInBounds_toArray, List.set_cons_zero, List.set_cons_succ]
            refine wpAnyH_take (i := 6) (v := ?v83x6) rfl (by as_aux_lemma => kernel_rfl) (by as_aux_lemma => kernel_rfl) (by as_aux_lemma => kernel_rfl) (fun _ _ _ h => h) (Or.inl ⟨by rfl, ?hy83x6⟩) (by assumption) ?rest83x6
            case hy83x6 => intro w hSw; obtain ⟨r0, r1, r2, r3, r4, r5⟩ := hSw; go_simp <;> with_reducible rfl
            simp only [Act.put, List.getElem_toArray, List.getElem_cons_zero, List.getElem_cons_succ, List.setIfInBounds_toArray, List.set_cons_zero, List.set_cons_succ]
            refine wpAnyH_take (i := 7) (v := ?v84x7) rfl (by as_aux_lemma => kernel_rfl) (by as_aux_lemma => kernel_rfl) (by as_aux_lemma => kernel_rfl) (fun _ _ _ h => h) (Or.inl ⟨by rfl, ?hy84x7⟩) (by assumption) ?rest84x7
            case hy84x7 => intro w hSw; obtain ⟨r0, r1, r2, r3, r4, r5⟩ := hSw; go_simp <;> with_reducible rfl
            simp only [Act.put, List.getElem_toArray, List.getElem_cons_zero, List.getElem_cons_succ, List.setIfInBounds_toArray, List.set_cons_zero, List.set_cons_succ]
            refine wpAnyH_take (i := 8) (v := (.int .i64 (m : Int))) rfl (by as_aux_lemma => kernel_rfl) (by as_aux_lemma => kernel_rfl) (by as_aux_lemma => kernel_rfl) (fun _ _ _ h => h) (Or.inl ⟨by rfl, ?hy85x8⟩) (by assumption) ?rest85x8
            case hy85x8 => intro w hSw; obtain ⟨r0, r1, r2, r3, r4, r5⟩ := hSw; go_simp <;> with_reducible rfl
            simp only [Act.put, List.getElem_toArray, List.getElem_cons_zero, List.getElem_cons_succ, List.setIfInBounds_toArray, List.set_cons_zero, List.set_cons_succ]
            refine wpAnyH_take (i := 9) (v := (.int .i64 ((f : Int) + (m : Int)))) rfl (by as_aux_lemma => kernel_rfl) (by as_aux_lemma => kernel_rfl) (by as_aux_lemma => kernel_rfl) (fun _ _ _ h => h) (Or.inl ⟨by rfl, ?hy86x9⟩) (by assumption) ?rest86x9
            case hy86x9 => intro w hSw; obtain ⟨r0, r1, r2, r3, r4, r5⟩ := hSw; go_simp <;> with_reducible rfl
            simp only [Act.put, List.getElem_toArray, List.getElem_cons_zero, List.getElem_cons_succ, List.setIfInBounds_toArray, List.set_cons_zero, List.set_cons_succ]
            refine wpAnyH_take (i := 10) (v := ?v87x10) rfl (by as_aux_lemma => kernel_rfl) (by as_aux_lemma => kernel_rfl) (by as_aux_lemma => kernel_rfl) (fun _ _ _ h => h) (Or.inl ⟨by rfl, ?hy87x10⟩) (by assumption) ?rest87x10
            case hy87x10 => intro w hSw; obtain ⟨r0, r1, r2, r3, r4, r5⟩ := hSw; go_simp <;> with_reducible rfl
            simp only [Act.put, List.getElem_toArray, List.getElem_cons_zero, List.getElem_cons_succ, List.setIfInBounds_toArray, List.set_cons_zero, List.set_cons_succ]
            refine wpAnyH_take (i := 11) (v := (.int .i64 (i : Int))) rfl (by as_aux_lemma => kernel_rfl) (by as_aux_lemma => kernel_rfl) (by as_aux_lemma => kernel_rfl) (fun _ _ _ h => h) (Or.inl ⟨by rfl, ?hy88x11⟩) (by assumption) ?rest88x11
            case hy88x11 => intro w hSw; obtain ⟨r0, r1, r2, r3, r4, r5⟩ := hSw; go_simp <;> with_reducible rfl
            simp only [Act.put, List.getElem_toArray, List.getElem_cons_zero, List.getElem_cons_succ, List.setIfInBounds_toArray, List.set_cons_zero, List.set_cons_succ]
            refine wpAnyH_take (i := 12) (v := (.int .i64 (q : Int))) rfl (by as_aux_lemma => kernel_rfl) (by as_aux_lemma => kernel_rfl) (by as_aux_lemma => kernel_rfl) (fun _ _ _ h => h) (Or.inl ⟨by rfl, ?hy89x12⟩) (by assumption) ?rest89x12
            case hy89x12 => intro w hSw; obtain ⟨r0, r1, r2, r3, r4, r5⟩ := hSw; go_simp <;> with_reducible rfl
            simp only [Act.put, List.getElem_toArray, List.getElem_cons_zero, List.getElem_cons_succ, List.setIfInBounds_toArray, List.set_cons_zero, List.set_cons_succ]
            refine wpAnyH_take (i := 13) (v := ?v90x13) rfl (by as_aux_lemma => kernel_rfl) (by as_aux_lemma => kernel_rfl) (by as_aux_lemma => kernel_rfl) (fun _ _ _ h => h) (Or.inl ⟨by rfl, ?hy90x13⟩) (by assumption) ?rest90x13
            case hy90x13 => intro w hSw; obtain ⟨r0, r1, r2, r3, r4, r5⟩ := hSw; go_simp <;> with_reducible rfl
            simp only [Act.put, List.getElem_toArray, List.getElem_cons_zero, List.getElem_cons_succ, List.setIfInBounds_toArray, List.set_cons_zero, List.set_cons_succ]
            refine wpAnyH_take (i := 14) (v := ?v91x14) rfl (by as_aux_lemma => kernel_rfl) (by as_aux_lemma => kernel_rfl) (by as_aux_lemma => kernel_rfl) (fun _ _ _ h => h) (Or.inl ⟨by rfl, ?hy91x14⟩) (by assumption) ?rest91x14
            case hy91x14 => intro w hSw; obtain ⟨r0, r1, r2, r3, r4, r5⟩ := hSw; go_simp <;> with_reducible rfl
            simp only [Act.put, List.getElem_toArray, List.getElem_cons_zero, List.getElem_cons_succ, List.setIfInBounds_toArray, List.set_cons_zero, List.set_cons_succ]
            refine wpAnyH_take (i := 15) (v := ?v92x15) rfl (by as_aux_lemma => kernel_rfl) (by as_aux_lemma => kernel_rfl) (by as_aux_lemma => kernel_rfl) (fun _ _ _ h => h) (Or.inl ⟨by rfl, ?hy92x15⟩) (by assumption) ?rest92x15
            case hy92x15 => intro w hSw; obtain ⟨r0, r1, r2, r3, r4, r5⟩ := hSw; go_simp <;> with_reducible rfl
            simp only [Act.put, List.getElem_toArray, List.getElem_cons_zero, List.getElem_cons_succ, List.setIfInBounds_toArray, List.set_cons_zero, List.set_cons_succ]
            refine wpAnyH_take (i := 16) (v := (.int .i64 (j : Int))) rfl (by as_aux_lemma => kernel_rfl) (by as_aux_lemma => kernel_rfl) (by as_aux_lemma => kernel_rfl) (fun _ _ _ h => h) (Or.inl ⟨by rfl, ?hy93x16⟩) (by assumption) ?rest93x16
            case hy93x16 => intro w hSw; obtain ⟨r0, r1, r2, r3, r4, r5⟩ := hSw; go_simp <;> with_reducible rfl
            simp only [Act.put, List.getElem_toArray, List.getElem_cons_zero, List.getElem_cons_succ, List.setIfInBounds_toArray, List.set_cons_zero, List.set_cons_succ]
            refine wpAnyH_take (i := 17) (v := ?v94x17) rfl (by as_aux_lemma => kernel_rfl) (by as_aux_lemma => kernel_rfl) (by as_aux_lemma => kernel_rfl) (fun _ _ _ h => h) (Or.inl ⟨by rfl, ?hy94x17⟩) (by assumption) ?rest94x17
            case hy94x17 => intro w hSw; obtain ⟨r0, r1, r2, r3, r4, r5⟩ := hSw; go_simp <;> with_reducible rfl
            simp only [Act.put, List.getElem_toArray, List.getElem_cons_zero, List.getElem_cons_succ, List.setIfInBounds_toArray, List.set_cons_zero, List.set_cons_succ]
            refine wpAnyH_take (i := 18) (v := (.agg #[.bool false, .bool false, .slice ba bl bc])) rfl (by as_aux_lemma => kernel_rfl) (by as_aux_lemma => kernel_rfl) (by as_aux_lemma => kernel_rfl) (fun _ _ _ h => h) (Or.inl ⟨by rfl, ?hy95x18⟩) (by assumption) ?rest95x18
            case hy95x18 => intro w hSw; obtain ⟨r0, r1, r2, r3, r4, r5⟩ := hSw; go_simp <;> with_reducible rfl
            simp only [Act.put, List.getElem_toArray, List.getElem_cons_zero, List.getElem_cons_succ, List.setIfInBounds_toArray, List.set_cons_zero, List.set_cons_succ]
            refine wpAnyH_ready (rs := [19]) (by as_aux_lemma => kernel_rfl) (by simp) ?_
            refine AllReadyH.cons rfl (fun K hK => ?_) AllReadyH.nil
            go_simp
            refine hK _ _ (unhide HSX _ ((Below.refl _ _).drew.alloc (Nat.le_refl _) _)) ?_
            clear hK hHeld
            intro hHeld
            refine wpAnyH_ready (rs := [20]) (by as_aux_lemma => kernel_rfl) (by simp) ?_
            refine AllReadyH.cons rfl (fun K hK => ?_) AllReadyH.nil
            go_simp
            refine hK _ _ (unhide HSX _ ((Below.refl _ _).alloc (Nat.le_refl _) _).drew) ?_
            clear hK hHeld
            intro hHeld
            refine wpAnyH_done (by as_aux_lemma => kernel_rfl) ?_ _
            obtain ⟨V, hV⟩ : ∃ V, (wr.alloc (.cells #[.bool false, .bool false, .slice ba bl bc] 67)).drew = V := ⟨_, rfl⟩
            have bV : Below wr.heap.size wr V := hV ▸ ((Below.refl _ _).alloc (Nat.le_refl _) _).drew
            have z0 : V.cell? ⟨wr.heap.size, 0, none⟩ = some (.bool false) := by rw [← hV]; show (wr.alloc _).cell? _ = _; simp [go_sem]
            have z1 : V.cell? ⟨wr.heap.size, 1, none⟩ = some (.bool false) := by rw [← hV]; show (wr.alloc _).cell? _ = _; simp [go_sem]
            have HON := hide (own_below (unhide HOW) bV)
            have HBN : Hid (Below B.heap.size B V) := (unhide HBr).trans (bV.mono (unhide HBr).size)
            rw [hV]
            clear bV
            obtain ⟨⟨q0, q1⟩, ⟨e0, e1, e2, e3⟩, e4⟩ := unhide HBX V (unhide HBN)
            have HDC := hide (rdecode_any (.slice xa acc.length xc) acc V (sees_of_own (unhide HON)).2 (by rw [unhide HACC]; exact unhide HRB) (by have := unhide HALN; omega))
            rw [unhide HACC] at HDC
            generalize hgc : dec (rdL F (f + m) m) = c at HDC
            go_wp2_with fail
            rw [unhide HACC]
            refine (unhide HDC).mono ?_
            rintro e w6 ⟨dv, rfl, o6, b6⟩
            obtain ⟨va, vc, rfl⟩ := own_shape o6
            obtain ⟨W6, hW6⟩ : ∃ W6, w6.alloc (.cells #[.int .i64 c.num, .int .i64 c.slot, .int .i64 c.last, .slice va c.data.length vc] 88) = W6 := ⟨_, rfl⟩
            have bW6 : Below w6.heap.size w6 W6 := hW6 ▸ (Below.refl _ _).alloc (Nat.le_refl _) _
            have b6W : Below V.heap.size V W6 := b6.trans (bW6.mono b6.size)
            have HB6 : Hid (Below B.heap.size B W6) := (unhide HBN).trans (b6W.mono (unhide HBN).size)
            obtain ⟨z0, z1, z2, z3, _⟩ := box4f (w := w6) (w1 := W6) (x0 := .int .i64 c.num) (x1 := .int .i64 c.slot) (x2 := .int .i64 c.last) (x3 := .slice va c.data.length vc) (t := 88) (by rw [hW6]; exact Below.refl _ _)
            have HS6 := hide (own_below o6 bW6)
            have HWB := hide (unhide HW W6 (unhide HB6))
            have HLT : Hid (w.heap.size + 1 < V.heap.size) := by show _ < _; have := (unhide HBN).size; have := unhide HSZ; omega
            clear b6 bW6 b6W o6 q0 q1 e0 e1 e2 e3 e4 HDC
            obtain ⟨⟨q0, q1⟩, ⟨e0, e1, e2, e3⟩, e4⟩ := unhide HBX W6 (unhide HB6)
            go_wp2_with (first | rw [hW6] | fail)
            obtain ⟨k0, k1, k2, k3⟩ := st4_cells (v0 := .int .i64 c.num) (v1 := .int .i64 c.slot) (v2 := .int .i64 c.last) (v3 := .slice va c.data.length vc) e0 e1 e2 e3
            have hbl := st4_below (unhide HWB) (show w.heap.size ≤ w.heap.size + 1 by omega) (.int .i64 c.num) (.int .i64 c.slot) (.int .i64 c.last) (.slice va c.data.length vc)
            have hlt6 := unhide HLT
            have hor := own_set (own_set (own_set (own_set (unhide HS6) (p := ⟨w.heap.size + 1, 0, none⟩) hlt6 (.int .i64 c.num)) (p := ⟨w.heap.size + 1, 1, none⟩) hlt6 (.int .i64 c.slot)) (p := ⟨w.heap.size + 1, 2, none⟩) hlt6 (.int .i64 c.last)) (p := ⟨w.heap.size + 1, 3, none⟩) hlt6 (.slice va c.data.length vc)
            generalize (((W6.setCell ⟨w.heap.size + 1, 0, none⟩ (.int .i64 c.num)).setCell ⟨w.heap.size + 1, 1, none⟩ (.int .i64 c.slot)).setCell ⟨w.heap.size + 1, 2, none⟩ (.int .i64 c.last)).setCell ⟨w.heap.size + 1, 3, none⟩ (.slice va c.data.length vc) = Y at *
            refine bodyPost_ret (v := .tuple #[.agg #[.int .i64 c.num, .int .i64 c.slot, .int .i64 c.last, .slice va c.data.length vc], .bool (decide (c.err = 0))]) (by simp [results, Tryz.results74, go_sem, k0, k1, k2, k3]; rfl) rfl ?_
            rw [hgc]
            exact ⟨_, rfl, own_lower hor (by omega), hbl⟩
          · skip
            have HACC : Hid (acc = rdL F (f + m) m) := by
              show acc = _
              rw [hE, if_pos (hrdE.2 hs)]; simp
            rw [decide_eq_true (show F.st q j ≠ 0 by rw [hst]; decide)] at p0
            rw [decide_eq_true hst] at p1
            have HSX : Hid (∀ x, Below wr.heap.size wr x → x.cell? ⟨hr, 0, none⟩ = some (.slice (some ⟨gp, 0, none⟩) F.n cp) ∧ x.cell? ⟨w.heap.size, 0, none⟩ = some (.int .i64 f) ∧ x.cell? ⟨gp, q, none⟩ = some (.slice (some ⟨pb q, 0, none⟩) 16 (cb q)) ∧ x.cell? ⟨pb q, j * 3, none⟩ = some (.bool true) ∧ x.cell? ⟨pb q, j * 3 + 1, none⟩ = some (.bool true) ∧ x.cell? ⟨pb q, j * 3 + 2, none⟩ = some (.slice ba bl bc)) := fun x hx =>
              have c : ∀ {p : Addr} {v : Value}, wr.cell? p = some v → x.cell? p = some v := fun h => (hx.cell (World.block_lt_of_cell? wr _ h)).trans h
              ⟨c g0, c q0, c g1, c p0, c p1, c p2⟩
            have HALN : Hid (acc.length ≤ 4194304) := by show _ ≤ _; omega
            clear hown hE hrdE hs hbv Hr hBr hal hmm
            go_wp2_with fail
            refine wp_region_held_drew (S := fun x => x.cell? ⟨hr, 0, none⟩ = some (.slice (some ⟨gp, 0, none⟩) F.n cp) ∧ x.cell? ⟨w.heap.size, 0, none⟩ = some (.int .i64 f) ∧ x.cell? ⟨gp, q, none⟩ = some (.slice (some ⟨pb q, 0, none⟩) 16 (cb q)) ∧ x.cell? ⟨pb q, j * 3, none⟩ = some (.bool true) ∧ x.cell? ⟨pb q, j * 3 + 1, none⟩ = some (.bool true) ∧ x.cell? ⟨pb q, j * 3 + 2, none⟩ = some (.slice ba bl bc)) (by kernel_rfl) ⟨g0, q0, g1, p0, p1, p2⟩ (fun hHeld => ?_)
            refine wpAnyH_take (i := 0) (v := ?v96x0) rfl (by as_aux_lemma => kernel_rfl) (by as_aux_lemma => kernel_rfl) (by as_aux_lemma => kernel_rfl) (fun _ _ _ h => h) (Or.inl ⟨by rfl, ?hy96x0⟩) (by assumption) ?rest96x0
            case hy96x0 => intro w hSw; obtain ⟨r0, r1, r2, r3, r4, r5⟩ := hSw; go_simp <;> with_reducible rfl
            simp only [Act.put, List.getElem_toArray, List.getElem_cons_zero, List.setIfInBounds_toArray, List.set_cons_zero, List.set_cons_succ]
            refine wpAnyH_take (i := 1) (v := ?v97x1) rfl (by as_aux_lemma => kernel_rfl) (by as_aux_lemma => kernel_rfl) (by as_aux_lemma => kernel_rfl) (fun _ _ _ h => h) (Or.inl ⟨by rfl, ?hy97x1⟩) (by assumption) ?rest97x1
            case hy97x1 => intro w hSw; obtain ⟨r0, r1, r2, r3, r4, r5⟩ := hSw; go_simp <;> with_reducible rfl
            simp only [Act.put, List.getElem_toArray, List.getElem_cons_zero, List.getElem_cons_succ, List.setIfInBounds_toArray, List.set_cons_zero, List.set_cons_succ]
            refine wpAnyH_take (i := 2) (v := ?v98x2) rfl (by as_aux_lemma => kernel_rfl) (by as_aux_lemma => kernel_rfl) (by as_aux_lemma => kernel_rfl) (fun _ _ _ h => h) (Or.inl ⟨by rfl, ?hy98x2⟩) (by assumption) ?rest98x2
            case hy98x2 => intro w hSw; obtain ⟨r0, r1, r2, r3, r4, r5⟩ := hSw; go_simp <;> with_reducible rfl
            simp only [Act.put, List.getElem_toArray, List.getElem_cons_zero, List.getElem_cons_succ, List.setIfInBounds_toArray, List.set_cons_zero, List.set_cons_succ]
            refine wpAnyH_take (i := 3) (v := ?v99x3) rfl (by as_aux_lemma => kernel_rfl) (by as_aux_lemma => kernel_rfl) (by as_aux_lemma => kernel_rfl) (fun _ _ _ h => h) (Or.inl ⟨by rfl, ?hy99x3⟩) (by assumption) ?rest99x3
            case hy99x3 => intro w hSw; obtain ⟨r0, r1, r2, r3, r4, r5⟩ := hSw; go_simp <;> with_reducible rfl
            simp only [Act.put, List.getElem_toArray, List.getElem_cons_zero, List.getElem_cons_succ, List.setIfInBounds_toArray, List.set_cons_zero, List.set_cons_succ]
            refine wpAnyH_take (i := 4) (v := ?v100x4) rfl (by as_aux_lemma => kernel_rfl) (by as_aux_lemma => kernel_rfl) (by as_aux_lemma => kernel_rfl) (fun _ _ _ h => h) (Or.inl ⟨by rfl, ?hy100x4⟩) (by assumption) ?rest100x4
            case hy100x4 => intro w hSw; obtain ⟨r0, r1, r2, r3, r4, r5⟩ := hSw; go_simp <;> with_reducible rfl
            simp only [Act.put, List.getElem_toArray, List.getElem_cons_zero, List.getElem_cons_succ, List.setIfInBounds_toArray, List.set_cons_zero, List.set_cons_succ]
            refine wpAnyH_take (i := 5) (v := ?v101x5) rfl (by as_aux_lemma => kernel_rfl) (by as_aux_lemma => kernel_rfl) (by as_aux_lemma => kernel_rfl) (fun _ _ _ h => h) (Or.inl ⟨by rfl, ?hy101x5⟩) (by assumption) ?rest101x5
            case hy101x5 => intro w hSw; obtain ⟨r0, r1, r2, r3, r4, r5⟩ := hSw; go_simp <;> with_reducible rfl
            simp only [Act.put, List.getElem_toArray, List.getElem_cons_zero, List.getElem_cons_succ, List.setIfInBounds_toArray, List.set_cons_zero, List.set_cons_succ]
            refine wpAnyH_take (i := 6) (v := ?v102x6) rfl (by as_aux_lemma => kernel_rfl) (by as_aux_lemma => kernel_rfl) (by as_aux_lemma => kernel_rfl) (fun _ _ _ h => h) (Or.inl ⟨by rfl, ?hy102x6⟩) (by assumption) ?rest102x6
            case hy102x6 => intro w hSw; obtain ⟨r0, r1, r2, r3, r4, r5⟩ := hSw; go_simp <;> with_reducible rfl
            simp only [Act.put, List.getElem_toArray, List.getElem_cons_zero, List.getElem_cons_succ, List.setIfInBounds_toArray, List.set_cons_zero, List.set_cons_succ]
            refine wpAnyH_take (i := 7) (v := ?v103x7) rfl (by as_aux_lemma => kernel_rfl) (by as_aux_lemma => kernel_rfl) (by as_aux_lemma => kernel_rfl) (fun _ _ _ h => h) (Or.inl ⟨by rfl, ?hy103x7⟩) (by assumption) ?rest103x7
            case hy103x7 => intro w hSw; obtain ⟨r0, r1, r2, r3, r4, r5⟩ := hSw; go_simp <;> with_reducible rfl
            simp only [Act.put, List.getElem_toArray, List.getElem_cons_zero, List.getElem_cons_succ, List.setIfInBounds_toArray, List.set_cons_zero, List.set_cons_succ]
            refine wpAnyH_take (i := 8) (v := (.int .i64 (m : Int))) rfl (by as_aux_lemma => kernel_rfl) (by as_aux_lemma => kernel_rfl) (by as_aux_lemma => kernel_rfl) (fun _ _ _ h => h) (Or.inl ⟨by rfl, ?hy104x8⟩) (by assumption) ?rest104x8
            case hy104x8 => intro w hSw; obtain ⟨r0, r1, r2, r3, r4, r5⟩ := hSw; go_simp <;> with_reducible rfl
            simp only [Act.put, List.getElem_toArray, List.getElem_cons_zero, List.getElem_cons_succ, List.setIfInBounds_toArray, List.set_cons_zero, List.set_cons_succ]
            refine wpAnyH_take (i := 9) (v := (.int .i64 ((f : Int) + (m : Int)))) rfl (by as_aux_lemma => kernel_rfl) (by as_aux_lemma => kernel_rfl) (by as_aux_lemma => kernel_rfl) (fun _ _ _ h => h) (Or.inl ⟨by rfl, ?hy105x9⟩) (by assumption) ?rest105x9
            case hy105x9 => intro w hSw; obtain ⟨r0, r1, r2, r3, r4, r5⟩ := hSw; go_simp <;> with_reducible rfl
            simp only [Act.put, List.getElem_toArray, List.getElem_cons_zero, List.getElem_cons_succ, List.setIfInBounds_toArray, List.set_cons_zero, List.set_cons_succ]
            refine wpAnyH_take (i := 10) (v := ?v106x10) rfl (by as_aux_lemma => kernel_rfl) (by as_aux_lemma => kernel_rfl) (by as_aux_lemma => kernel_rfl) (fun _ _ _ h => h) (Or.inl ⟨by rfl, ?hy106x10⟩) (by assumption) ?rest106x10
            case hy106x10 => intro w hSw; obtain ⟨r0, r1, r2, r3, r4, r5⟩ := hSw; go_simp <;> with_reducible rfl
            simp only [Act.put, List.getElem_toArray, List.getElem_cons_zero, List.getElem_cons_succ, List.setIfInBounds_toArray, List.set_cons_zero, List.set_cons_succ]
            refine wpAnyH_take (i := 11) (v := (.int .i64 (i : Int))) rfl (by as_aux_lemma => kernel_rfl) (by as_aux_lemma => kernel_rfl) (by as_aux_lemma => kernel_rfl) (fun _ _ _ h => h) (Or.inl ⟨by rfl, ?hy107x11⟩) (by assumption) ?rest107x11
            case hy107x11 => intro w hSw; obtain ⟨r0, r1, r2, r3, r4, r5⟩ := hSw; go_simp <;> with_reducible rfl
            simp only [Act.put, List.getElem_toArray, List.getElem_cons_zero, List.getElem_cons_succ, List.setIfInBounds_toArray, List.set_cons_zero, List.set_cons_succ]
            refine wpAnyH_take (i := 12) (v := (.int .i64 (q : Int))) rfl (by as_aux_lemma => kernel_rfl) (by as_aux_lemma => kernel_rfl) (by as_aux_lemma => kernel_rfl) (fun _ _ _ h => h) (Or.inl ⟨by rfl, ?hy108x12⟩) (by assumption) ?rest108x12
            case hy108x12 => intro w hSw; obtain ⟨r0, r1, r2, r3, r4, r5⟩ := hSw; go_simp <;> with_reducible rfl
            simp only [Act.put, List.getElem_toArray, List.getElem_cons_zero, List.getElem_cons_succ, List.setIfInBounds_toArray, List.set_cons_zero, List.set_cons_succ]
            refine wpAnyH_take (i := 13) (v := ?v109x13) rfl (by as_aux_lemma => kernel_rfl) (by as_aux_lemma => kernel_rfl) (by as_aux_lemma => kernel_rfl) (fun _ _ _ h => h) (Or.inl ⟨by rfl, ?hy109x13⟩) (by assumption) ?rest109x13
            case hy109x13 => intro w hSw; obtain ⟨r0, r1, r2, r3, r4, r5⟩ := hSw; go_simp <;> with_reducible rfl
            simp only [Act.put, List.getElem_toArray, List.getElem_cons_zero, List.getElem_cons_succ, List.setIfInBounds_toArray, List.set_cons_zero, List.set_cons_succ]
            refine wpAnyH_take (i := 14) (v := ?v110x14) rfl (by as_aux_lemma => kernel_rfl) (by as_aux_lemma => kernel_rfl) (by as_aux_lemma => kernel_rfl) (fun _ _ _ h => h) (Or.inl ⟨by rfl, ?hy110x14⟩) (by assumption) ?rest110x14
            case hy110x14 => intro w hSw; obtain ⟨r0, r1, r2, r3, r4, r5⟩ := hSw; go_simp <;> with_reducible rfl
            simp only [Act.put, List.getElem_toArray, List.getElem_cons_zero, List.getElem_cons_succ, List.setIfInBounds_toArray, List.set_cons_zero, List.set_cons_succ]
            refine wpAnyH_take (i := 15) (v := ?v111x15) rfl (by as_aux_lemma => kernel_rfl) (by as_aux_lemma => kernel_rfl) (by as_aux_lemma => kernel_rfl) (fun _ _ _ h => h) (Or.inl ⟨by rfl, ?hy111x15⟩) (by assumption) ?rest111x15
            case hy111x15 => intro w hSw; obtain ⟨r0, r1, r2, r3, r4, r5⟩ := hSw; go_simp <;> with_reducible rfl
            simp only [Act.put, List.getElem_toArray, List.getElem_cons_zero, List.getElem_cons_succ, List.setIfInBounds_toArray, List.set_cons_zero, List.set_cons_succ]
            refine wpAnyH_take (i := 16) (v := (.int .i64 (j : Int))) rfl (by as_aux_lemma => kernel_rfl) (by as_aux_lemma => kernel_rfl) (by as_aux_lemma => kernel_rfl) (fun _ _ _ h => h) (Or.inl ⟨by rfl, ?hy112x16⟩) (by assumption) ?rest112x16
            case hy112x16 => intro w hSw; obtain ⟨r0, r1, r2, r3, r4, r5⟩ := hSw; go_simp <;> with_reducible rfl
            simp only [Act.put, List.getElem_toArray, List.getElem_cons_zero, List.getElem_cons_succ, List.setIfInBounds_toArray, List.set_cons_zero, List.set_cons_succ]
            refine wpAnyH_take (i := 17) (v := ?v113x17) rfl (by as_aux_lemma => kernel_rfl) (by as_aux_lemma => kernel_rfl) (by as_aux_lemma => kernel_rfl) (fun _ _ _ h => h) (Or.inl ⟨by rfl, ?hy113x17⟩) (by assumption) ?rest113x17
            case hy113x17 => intro w hSw; obtain ⟨r0, r1, r2, r3, r4, r5⟩ := hSw; go_simp <;> with_reducible rfl
            simp only [Act.put, List.getElem_toArray, List.getElem_cons_zero, List.getElem_cons_succ, List.setIfInBounds_toArray, List.set_cons_zero, List.set_cons_succ]
            refine wpAnyH_take (i := 18) (v := (.agg #[.bool true, .bool true, .slice ba bl bc])) rfl (by as_aux_lemma => kernel_rfl) (by as_aux_lemma => kernel_rfl) (by as_aux_lemma => kernel_rfl) (fun _ _ _ h => h) (Or.inl ⟨by rfl, ?hy114x18⟩) (by assumption) ?rest114x18
            case hy114x18 => intro w hSw; obtain ⟨r0, r1, r2, r3, r4, r5⟩ := hSw; go_simp <;> with_reducible rfl
            simp only [Act.put, List.getElem_toArray, List.getElem_cons_zero, List.getElem_cons_succ, List.setIfInBounds_toArray, List.set_cons_zero, List.set_cons_succ]
            refine wpAnyH_ready (rs := [19]) (by as_aux_lemma => kernel_rfl) (by simp) ?_
            refine AllReadyH.cons rfl (fun K hK => ?_) AllReadyH.nil
            go_simp
            refine hK _ _ (unhide HSX _ ((Below.refl _ _).drew.alloc (Nat.le_refl _) _)) ?_
            clear hK hHeld
            intro hHeld
            refine wpAnyH_ready (rs := [20]) (by as_aux_lemma => kernel_rfl) (by simp) ?_
            refine AllReadyH.cons rfl (fun K hK => ?_) AllReadyH.nil
            go_simp
            refine hK _ _ (unhide HSX _ ((Below.refl _ _).alloc (Nat.le_refl _) _).drew) ?_
            clear hK hHeld
            intro hHeld
            refine wpAnyH_done (by as_aux_lemma => kernel_rfl) ?_ _
            obtain ⟨V, hV⟩ : ∃ V, (wr.alloc (.cells #[.bool true, .bool true, .slice ba bl bc] 67)).drew = V := ⟨_, rfl⟩
            have bV : Below wr.heap.size wr V := hV ▸ ((Below.refl _ _).alloc (Nat.le_refl _) _).drew
            have z0 : V.cell? ⟨wr.heap.size, 0, none⟩ = some (.bool true) := by rw [← hV]; show (wr.alloc _).cell? _ = _; simp [go_sem]
            have z1 : V.cell? ⟨wr.heap.size, 1, none⟩ = some (.bool true) := by rw [← hV]; show (wr.alloc _).cell? _ = _; simp [go_sem]
            have HON := hide (own_below (unhide HOW) bV)
            have HBN : Hid (Below B.heap.size B V) := (unhide HBr).trans (bV.mono (unhide HBr).size)
            rw [hV]
            clear bV
            obtain ⟨⟨q0, q1⟩, ⟨e0, e1, e2, e3⟩, e4⟩ := unhide HBX V (unhide HBN)
            have HDC := hide (rdecode_any (.slice xa acc.length xc) acc V (sees_of_own (unhide HON)).2 (by rw [unhide HACC]; exact unhide HRB) (by have := unhide HALN; omega))
            rw [unhide HACC] at HDC
            generalize hgc : dec (rdL F (f + m) m) = c at HDC
            go_wp2_with fail
            rw [unhide HACC]
            refine (unhide HDC).mono ?_
            rintro e w6 ⟨dv, rfl, o6, b6⟩
            obtain ⟨va, vc, rfl⟩ := own_shape o6
            obtain ⟨W6, hW6⟩ : ∃ W6, w6.alloc (.cells #[.int .i64 c.num, .int .i64 c.slot, .int .i64 c.last, .slice va c.data.length vc] 88) = W6 := ⟨_, rfl⟩
            have bW6 : Below w6.heap.size w6 W6 := hW6 ▸ (Below.refl _ _).alloc (Nat.le_refl _) _
            have b6W : Below V.heap.size V W6 := b6.trans (bW6.mono b6.size)
            have HB6 : Hid (Below B.heap.size B W6) := (unhide HBN).trans (b6W.mono (unhide HBN).size)
            obtain ⟨z0, z1, z2, z3, _⟩ := box4f (w := w6) (w1 := W6) (x0 := .int .i64 c.num) (x1 := .int .i64 c.slot) (x2 := .int .i64 c.last) (x3 := .slice va c.data.length vc) (t := 88) (by rw [hW6]; exact Below.refl _ _)
            have HS6 := hide (own_below o6 bW6)
            have HWB := hide (unhide HW W6 (unhide HB6))
            have HLT : Hid (w.heap.size + 1 < V.heap.size) := by show _ < _; have := (unhide HBN).size; have := unhide HSZ; omega
            clear b6 bW6 b6W o6 q0 q1 e0 e1 e2 e3 e4 HDC
            obtain ⟨⟨q0, q1⟩, ⟨e0, e1, e2, e3⟩, e4⟩ := unhide HBX W6 (unhide HB6)
            go_wp2_with (first | rw [hW6] | fail)
            obtain ⟨k0, k1, k2, k3⟩ := st4_cells (v0 := .int .i64 c.num) (v1 := .int .i64 c.slot) (v2 := .int .i64 c.last) (v3 := .slice va c.data.length vc) e0 e1 e2 e3
            have hbl := st4_below (unhide HWB) (show w.heap.size ≤ w.heap.size + 1 by omega) (.int .i64 c.num) (.int .i64 c.slot) (.int .i64 c.last) (.slice va c.data.length vc)
            have hlt6 := unhide HLT
            have hor := own_set (own_set (own_set (own_set (unhide HS6) (p := ⟨w.heap.size + 1, 0, none⟩) hlt6 (.int .i64 c.num)) (p := ⟨w.heap.size + 1, 1, none⟩) hlt6 (.int .i64 c.slot)) (p := ⟨w.heap.size + 1, 2, none⟩) hlt6 (.int .i64 c.last)) (p := ⟨w.heap.size + 1, 3, none⟩) hlt6 (.slice va c.data.length vc)
            generalize (((W6.setCell ⟨w.heap.size + 1, 0, none⟩ (.int .i64 c.num)).setCell ⟨w.heap.size + 1, 1, none⟩ (.int .i64 c.slot)).setCell ⟨w.heap.size + 1, 2, none⟩ (.int .i64 c.last)).setCell ⟨w.heap.size + 1, 3, none⟩ (.slice va c.data.length vc) = Y at *
            refine bodyPost_ret (v := .tuple #[.agg #[.int .i64 c.num, .int .i64 c.slot, .int .i64 c.last, .slice va c.data.length vc], .bool (decide (c.err = 0))]) (by simp [results, Tryz.results74, go_sem, k0, k1, k2, k3]; rfl) rfl ?_
            rw [hgc]
            exact ⟨_, rfl, own_lower hor (by omega), hbl⟩
      · have HACC : Hid (acc = rdL F (f + m) m) := by
          have h0 : m * 16 - k = 0 := by omega
          rw [h0] at hE
          show acc = _
          rw [hE]; simp [pgs]
        have HON := hide hown
        have HBN := hide hBr
        have HALN : Hid (acc.length ≤ 4194304) := by show _ ≤ _; omega
        clear hown hE hBr hal
        obtain ⟨⟨q0, q1⟩, ⟨e0, e1, e2, e3⟩, e4⟩ := unhide HBX wr (unhide HBN)
        have HDC := hide (rdecode_any (.slice xa acc.length xc) acc wr (sees_of_own (unhide HON)).2 (by rw [unhide HACC]; exact unhide HRB) (by have := unhide HALN; omega))
        rw [unhide HACC] at HDC
        generalize hgc : dec (rdL F (f + m) m) = c at HDC
        go_wp2_with fail
        rw [unhide HACC]
        refine (unhide HDC).mono ?_
        rintro e w6 ⟨dv, rfl, o6, b6⟩
        obtain ⟨va, vc, rfl⟩ := own_shape o6
        obtain ⟨W6, hW6⟩ : ∃ W6, w6.alloc (.cells #[.int .i64 c.num, .int .i64 c.slot, .int .i64 c.last, .slice va c.data.length vc] 88) = W6 := ⟨_, rfl⟩
        have bW6 : Below w6.heap.size w6 W6 := hW6 ▸ (Below.refl _ _).alloc (Nat.le_refl _) _
        have b6W : Below wr.heap.size wr W6 := b6.trans (bW6.mono b6.size)
        have HB6 : Hid (Below B.heap.size B W6) := (unhide HBN).trans (b6W.mono (unhide HBN).size)
        obtain ⟨z0, z1, z2, z3, _⟩ := box4f (w := w6) (w1 := W6) (x0 := .int .i64 c.num) (x1 := .int .i64 c.slot) (x2 := .int .i64 c.last) (x3 := .slice va c.data.length vc) (t := 88) (by rw [hW6]; exact Below.refl _ _)
        have HS6 := hide (own_below o6 bW6)
        have HWB := hide (unhide HW W6 (unhide HB6))
        have HLT : Hid (w.heap.size + 1 < wr.heap.size) := by show _ < _; have := (unhide HBN).size; have := unhide HSZ; omega
        clear b6 bW6 b6W o6 q0 q1 e0 e1 e2 e3 e4 HDC
        obtain ⟨⟨q0, q1⟩, ⟨e0, e1, e2, e3⟩, e4⟩ := unhide HBX W6 (unhide HB6)
        go_wp2_with (first | rw [hW6] | fail)
        obtain ⟨k0, k1, k2, k3⟩ := st4_cells (v0 := .int .i64 c.num) (v1 := .int .i64 c.slot) (v2 := .int .i64 c.last) (v3 := .slice va c.data.length vc) e0 e1 e2 e3
        have hbl := st4_below (unhide HWB) (show w.heap.size ≤ w.heap.size + 1 by omega) (.int .i64 c.num) (.int .i64 c.slot) (.int .i64 c.last) (.slice va c.data.length vc)
        have hlt6 := unhide HLT
        have hor := own_set (own_set (own_set (own_set (unhide HS6) (p := ⟨w.heap.size + 1, 0, none⟩) hlt6 (.int .i64 c.num)) (p := ⟨w.heap.size + 1, 1, none⟩) hlt6 (.int .i64 c.slot)) (p := ⟨w.heap.size + 1, 2, none⟩) hlt6 (.int .i64 c.last)) (p := ⟨w.heap.size + 1, 3, none⟩) hlt6 (.slice va c.data.length vc)
        generalize (((W6.setCell ⟨w.heap.size + 1, 0, none⟩ (.int .i64 c.num)).setCell ⟨w.heap.size + 1, 1, none⟩ (.int .i64 c.slot)).setCell ⟨w.heap.size + 1, 2, none⟩ (.int .i64 c.last)).setCell ⟨w.heap.size + 1, 3, none⟩ (.slice va c.data.length vc) = Y at *
        refine bodyPost_ret (v := .tuple #[.agg #[.int .i64 c.num, .int .i64 c.slot, .int .i64 c.last, .slice va c.data.length vc], .bool (decide (c.err = 0))]) (by simp [results, Tryz.results74, go_sem, k0, k1, k2, k3]; rfl) rfl ?_
        rw [hgc]
        exact ⟨_, rfl, own_lower hor (by omega), hbl⟩
end Go.Proofs.YtiijbklaapaheaaGreat
