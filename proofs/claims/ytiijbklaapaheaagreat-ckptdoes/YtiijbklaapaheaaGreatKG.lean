/- Several texts as one. -/
import Derived.Test.YtiijbklaapaheaaGreatKB
import Derived.Test.YtiijbklaapaheaaGreatDH

/- Load and Half, whatever they are asked. -/
namespace Go.Proofs.YtiijbklaapaheaaGreat
open Go.RowKit
set_option maxRecDepth 100000

set_option maxHeartbeats 800000 in
theorem load_reg {w : World} {g h cap : Nat} {F : Fl} (H : IsFl w g h cap F) (f n : Int) (hf : f ≤ 9223372036854775807) (hr : regE F.n f n ≠ 0) :
    Calls Tryz.prog 11 #[P0 h, .agg #[.int .i64 f, .int .i64 n]] w fun e w' => e = .returned (.tuple #[.agg #[.int .i64 0, .int .i64 0, .slice none 0 0], .bool false, .int .i64 (regE F.n f n)]) ∧ Below w.heap.size w w' := by
  obtain ⟨B, hB⟩ : ∃ B, (w.alloc (.cells #[.int .i64 f, .int .i64 n] 32)).alloc (.cells #[.int .i64 0, .int .i64 0, .slice none 0 0] 35) = B := ⟨_, rfl⟩
  have HBB : Hid (Below w.heap.size w B) := hB ▸ ((Below.refl _ _).alloc (Nat.le_refl _) _).alloc (by simp) _
  have HSZ : Hid (B.heap.size = w.heap.size + 2) := by show _ = _; rw [← hB]; simp
  have HBX : Hid (∀ x, Below B.heap.size B x → (x.cell? ⟨w.heap.size, 0, none⟩ = some (.int .i64 f) ∧ x.cell? ⟨w.heap.size, 1, none⟩ = some (.int .i64 n)) ∧ (x.cell? ⟨w.heap.size + 1, 0, none⟩ = some (.int .i64 0) ∧ x.cell? ⟨w.heap.size + 1, 1, none⟩ = some (.int .i64 0) ∧ x.cell? ⟨w.heap.size + 1, 2, none⟩ = some (.slice none 0 0)) ∧ ∀ o, x.frozen? ⟨w.heap.size + 1, o, none⟩ = false) := fun x hx => by
    have hs := unhide HSZ
    have c : ∀ b o, b < w.heap.size + 2 → x.cell? ⟨b, o, none⟩ = B.cell? ⟨b, o, none⟩ := fun b o hb => hx.cell (p := ⟨b, o, none⟩) (by show b < _; omega)
    have d : ∀ b o, b < w.heap.size + 2 → x.frozen? ⟨b, o, none⟩ = B.frozen? ⟨b, o, none⟩ := fun b o hb => World.frozen?_of_block (w := B) (hx.block b (by omega))
    refine ⟨⟨?_, ?_⟩, ⟨?_, ?_, ?_⟩, fun o => ?_⟩
    · rw [c _ _ (by omega), ← hB]; simp [go_sem, World.cell?_alloc_old]
    · rw [c _ _ (by omega), ← hB]; simp [go_sem, World.cell?_alloc_old]
    · rw [c _ _ (by omega), ← hB]; simp [go_sem]
    · rw [c _ _ (by omega), ← hB]; simp [go_sem]
    · rw [c _ _ (by omega), ← hB]; simp [go_sem]
    · rw [d _ _ (by omega), ← hB]; simp [go_sem]
  obtain ⟨⟨q0, q1⟩, _, _⟩ := unhide HBX B (Below.refl _ _)
  have HI := hide (H.below (unhide HBB))
  clear H
  have HRG := hide (region_any (unhide HI) f n hf)
  generalize regE F.n f n = re at HRG hr ⊢
  have hr' : ((re : Int) != 0) = true := by simp [hr]
  go_enter Tryz.func11, Tryz.ntmps11
  go_wp2_with (rw [hB])
  refine (unhide HRG).mono ?_
  rintro e w1 ⟨rfl, b1⟩
  have HB1 := hide b1
  clear b1 q0 q1
  obtain ⟨⟨q0, q1⟩, ⟨q2, q3, q4⟩, q5⟩ := unhide HBX w1 (unhide HB1)
  have HBW := hide ((unhide HBB).trans ((unhide HB1).mono (unhide HBB).size))
  go_wp2
  obtain ⟨k0, k1, k2⟩ := st3_cells (v0 := .int .i64 0) (v1 := .int .i64 0) (v2 := .slice none 0 0) q2 q3 q4
  have hbl := st3_below (unhide HBW) (show w.heap.size ≤ w.heap.size + 1 by omega) (.int .i64 0) (.int .i64 0) (.slice none 0 0)
  generalize ((w1.setCell ⟨w.heap.size + 1, 0, none⟩ (.int .i64 0)).setCell ⟨w.heap.size + 1, 1, none⟩ (.int .i64 0)).setCell ⟨w.heap.size + 1, 2, none⟩ (.slice none 0 0) = Y at *
  refine bodyPost_ret (v := .tuple #[.agg #[.int .i64 0, .int .i64 0, .slice none 0 0], .bool false, .int .i64 re]) (by simp [results, Tryz.results11, go_sem, k0, k1, k2]) rfl ?_
  exact ⟨rfl, hbl⟩

set_option maxHeartbeats 800000 in
theorem load_down {w : World} {g h cap : Nat} {F : Fl} (H : IsFl w g h cap F) (f n : Int) (hf : f ≤ 9223372036854775807) (hr : regE F.n f n = 0) (hdn : F.down = true) :
    Calls Tryz.prog 11 #[P0 h, .agg #[.int .i64 f, .int .i64 n]] w fun e w' => e = .returned (.tuple #[.agg #[.int .i64 0, .int .i64 0, .slice none 0 0], .bool false, .int .i64 7]) ∧ Below w.heap.size w w' := by
  obtain ⟨B, hB⟩ : ∃ B, (w.alloc (.cells #[.int .i64 f, .int .i64 n] 32)).alloc (.cells #[.int .i64 0, .int .i64 0, .slice none 0 0] 35) = B := ⟨_, rfl⟩
  have HBB : Hid (Below w.heap.size w B) := hB ▸ ((Below.refl _ _).alloc (Nat.le_refl _) _).alloc (by simp) _
  have HSZ : Hid (B.heap.size = w.heap.size + 2) := by show _ = _; rw [← hB]; simp
  have HBX : Hid (∀ x, Below B.heap.size B x → (x.cell? ⟨w.heap.size, 0, none⟩ = some (.int .i64 f) ∧ x.cell? ⟨w.heap.size, 1, none⟩ = some (.int .i64 n)) ∧ (x.cell? ⟨w.heap.size + 1, 0, none⟩ = some (.int .i64 0) ∧ x.cell? ⟨w.heap.size + 1, 1, none⟩ = some (.int .i64 0) ∧ x.cell? ⟨w.heap.size + 1, 2, none⟩ = some (.slice none 0 0)) ∧ ∀ o, x.frozen? ⟨w.heap.size + 1, o, none⟩ = false) := fun x hx => by
    have hs := unhide HSZ
    have c : ∀ b o, b < w.heap.size + 2 → x.cell? ⟨b, o, none⟩ = B.cell? ⟨b, o, none⟩ := fun b o hb => hx.cell (p := ⟨b, o, none⟩) (by show b < _; omega)
    have d : ∀ b o, b < w.heap.size + 2 → x.frozen? ⟨b, o, none⟩ = B.frozen? ⟨b, o, none⟩ := fun b o hb => World.frozen?_of_block (w := B) (hx.block b (by omega))
    refine ⟨⟨?_, ?_⟩, ⟨?_, ?_, ?_⟩, fun o => ?_⟩
    · rw [c _ _ (by omega), ← hB]; simp [go_sem, World.cell?_alloc_old]
    · rw [c _ _ (by omega), ← hB]; simp [go_sem, World.cell?_alloc_old]
    · rw [c _ _ (by omega), ← hB]; simp [go_sem]
    · rw [c _ _ (by omega), ← hB]; simp [go_sem]
    · rw [c _ _ (by omega), ← hB]; simp [go_sem]
    · rw [d _ _ (by omega), ← hB]; simp [go_sem]
  obtain ⟨⟨q0, q1⟩, _, _⟩ := unhide HBX B (Below.refl _ _)
  have HI := hide (H.below (unhide HBB))
  clear H
  have HRG := hide (region_any (unhide HI) f n hf)
  rw [hr] at HRG
  go_enter Tryz.func11, Tryz.ntmps11
  go_wp2_with (rw [hB])
  refine (unhide HRG).mono ?_
  rintro e w1 ⟨rfl, b1⟩
  have HB1 := hide b1
  clear b1 q0 q1
  obtain ⟨⟨q0, q1⟩, ⟨q2, q3, q4⟩, q5⟩ := unhide HBX w1 (unhide HB1)
  have HBW := hide ((unhide HBB).trans ((unhide HB1).mono (unhide HBB).size))
  have HDN := hide (down_any ((unhide HI).below (unhide HB1)))
  rw [hdn] at HDN
  go_wp2_with (go_at_call 8; refine (unhide HDN).mono ?_; rintro e w' ⟨rfl, rfl⟩)
  obtain ⟨k0, k1, k2⟩ := st3_cells (v0 := .int .i64 0) (v1 := .int .i64 0) (v2 := .slice none 0 0) q2 q3 q4
  have hbl := st3_below (unhide HBW) (show w.heap.size ≤ w.heap.size + 1 by omega) (.int .i64 0) (.int .i64 0) (.slice none 0 0)
  generalize ((w1.setCell ⟨w.heap.size + 1, 0, none⟩ (.int .i64 0)).setCell ⟨w.heap.size + 1, 1, none⟩ (.int .i64 0)).setCell ⟨w.heap.size + 1, 2, none⟩ (.slice none 0 0) = Y at *
  refine bodyPost_ret (v := .tuple #[.agg #[.int .i64 0, .int .i64 0, .slice none 0 0], .bool false, .int .i64 7]) (by simp [results, Tryz.results11, go_sem, k0, k1, k2]) rfl ?_
  exact ⟨rfl, hbl⟩

set_option maxHeartbeats 800000 in
theorem half_reg {w : World} {g h cap : Nat} {F : Fl} (H : IsFl w g h cap F) (f n : Int) (hf : f ≤ 9223372036854775807) (hr : regE F.n f n ≠ 0) :
    Calls Tryz.prog 12 #[P0 h, .agg #[.int .i64 f, .int .i64 n]] w fun e w' => e = .returned (.tuple #[.int .i64 0, .int .i64 0, .bool false]) ∧ Below w.heap.size w w' := by
  have hal : Below w.heap.size w (w.alloc (.cells #[.int .i64 f, .int .i64 n] 32)) := (Below.refl _ _).alloc (Nat.le_refl _) _
  have HM := hide (region_any (H.below hal) f n hf)
  have HA := hide hal
  generalize regE F.n f n = re at HM hr
  have hr' : ((re : Int) != 0) = true := by simp [hr]
  clear H hal
  go_enter Tryz.func12, Tryz.ntmps12
  go_wp2_with (go_at_call 35; refine (unhide HM).mono ?_; rintro e w1 ⟨rfl, hb1⟩; have HB1 := hide hb1; clear hb1)
  refine bodyPost_ret (v := .tuple #[.int .i64 0, .int .i64 0, .bool false]) (by simp [results, Tryz.results12, go_sem]) rfl ?_
  exact ⟨rfl, (unhide HA).trans ((unhide HB1).mono (unhide HA).size)⟩

theorem load_any {w : World} {g h cap : Nat} {F : Fl} (H : IsFl w g h cap F) (hP : ∀ i j, (F.readB i j).length ≤ 256) (f n : Int) (hf : f ≤ 9223372036854775807) :
    Calls Tryz.prog 11 #[P0 h, .agg #[.int .i64 f, .int .i64 n]] w fun e w' => ∃ dv, e = .returned (.tuple #[.agg #[.int .i64 (lodB F f n).ck.slot, .int .i64 (lodB F f n).ck.last, dv], .bool (decide (0 < (lodB F f n).ck.num)), .int .i64 (lodE F f n)]) ∧ w'.ownsRow w.heap.size 5 1 dv (lodB F f n).ck.data.length (ints .u8 (lodB F f n).ck.data) ∧ Below w.heap.size w w' := by
  unfold lodB lodE
  by_cases hr : regE F.n f n = 0
  case neg =>
    rw [if_pos (Or.inl hr), if_pos hr]
    exact (load_reg H f n hf hr).mono fun e w' hb => ⟨_, hb.1, World.ownsRow_nil _ _ _ _, hb.2⟩
  by_cases hdn : F.down = true
  · rw [if_pos (Or.inr hdn), if_neg (not_not_intro hr), if_pos hdn]
    exact (load_down H f n hf hr hdn).mono fun e w' hb => ⟨_, hb.1, World.ownsRow_nil _ _ _ _, hb.2⟩
  rw [if_neg (fun c => c.elim (fun c => c hr) hdn), if_neg (not_not_intro hr), if_neg hdn]
  obtain ⟨f', n', rfl, rfl, _, hfn⟩ := regE_is hr H.le
  simp only [Int.toNat_natCast]
  exact load_ok H hP f' n' hfn hr (by simpa using hdn)

/-- What Half finds. -/
def hafB (F : Fl) (f n : Int) : Bst := if regE F.n f n ≠ 0 then .none else nwk F f.toNat (n.toNat / 2) 2
theorem half_any {w : World} {g h cap : Nat} {F : Fl} (H : IsFl w g h cap F) (hP : ∀ i j, (F.readB i j).length ≤ 256) (f n : Int) (hf : f ≤ 9223372036854775807) :
    Calls Tryz.prog 12 #[P0 h, .agg #[.int .i64 f, .int .i64 n]] w fun e w' => e = .returned (.tuple #[.int .i64 (hafB F f n).at', .int .i64 (hafB F f n).ck.num, .bool (decide (0 < (hafB F f n).ck.num))]) ∧ Below w.heap.size w w' := by
  unfold hafB
  by_cases hr : regE F.n f n = 0
  case neg =>
    rw [if_pos hr]
    exact half_reg H f n hf hr
  rw [if_neg (not_not_intro hr)]
  obtain ⟨f', n', rfl, rfl, _, hfn⟩ := regE_is hr H.le
  simp only [Int.toNat_natCast]
  exact half_ok H hP f' n' hfn hr
end Go.Proofs.YtiijbklaapaheaaGreat

/- The document's checkpoints: the newest one; Load and Find. -/
namespace Go.Proofs.YtiijbklaapaheaaGreat
open Go.RowKit
set_option maxRecDepth 100000
variable {w : World} {S : Nat → Prop} {hr gp gw cp cw : Nat} {pb cb : Nat → Nat} {bv : Nat → Nat → Value} {F : Fl} {kp : Int}

theorem nwk_two (F : Fl) (f m : Nat) : nwk F f m 2 = (Bst.none.step 0 (dec (rdL F f m))).step 1 (dec (rdL F (f + m) m)) := by
  show (Bst.none.step ((0 : Nat) : Int) (dec (rdL F (f + 0 * m) m))).step ((1 : Nat) : Int) (dec (rdL F (f + 1 * m) m)) = _
  rw [Nat.zero_mul, Nat.one_mul, Nat.add_zero]
  rfl
/-- What bytes say as a checkpoint has a number, if they say one. -/
theorem dec_pos (zs : List Int) : (dec zs).err = 0 → 1 ≤ (dec zs).num := by
  unfold dec
  (repeat' split)
  · intro h; cases h
  · intro h; cases h
  · intro h; cases h
  · intro h; cases h
  · rename_i h
    intro _
    have h' := Decidable.not_not.1 h
    unfold faultE at h'
    split at h'
    · rename_i c; exact c.1
    · cases h'
theorem dec_err (zs : List Int) : (dec zs).err ≠ 0 → dec zs = .bad := by
  unfold dec
  (repeat' split)
  · intro _; rfl
  · intro _; rfl
  · intro _; rfl
  · intro _; rfl
  · intro h; exact absurd rfl h
/-- Which half has the newest one; -1: there is none. -/
def nwH (c : Bst) : Int := if 0 < c.ck.num then c.at' else -1
/-- The two ways to say which is the newest. -/
theorem nwk_cases (F : Fl) (f m : Nat) :
    ((dec (rdL F f m)).err ≠ 0 ∧ (dec (rdL F (f + m) m)).err ≠ 0 ∧ nwk F f m 2 = .none) ∨
    ((dec (rdL F f m)).err = 0 ∧ ((dec (rdL F (f + m) m)).err ≠ 0 ∨ (dec (rdL F (f + m) m)).err = 0 ∧ (dec (rdL F (f + m) m)).num ≤ (dec (rdL F f m)).num) ∧ 1 ≤ (dec (rdL F f m)).num ∧ nwk F f m 2 = ⟨0, dec (rdL F f m)⟩) ∨
    ((dec (rdL F (f + m) m)).err = 0 ∧ ((dec (rdL F f m)).err ≠ 0 ∨ (dec (rdL F f m)).err = 0 ∧ (dec (rdL F f m)).num < (dec (rdL F (f + m) m)).num) ∧ 1 ≤ (dec (rdL F (f + m) m)).num ∧ nwk F f m 2 = ⟨1, dec (rdL F (f + m) m)⟩) := by
  rw [nwk_two]
  have pa := dec_pos (rdL F f m)
  have pb := dec_pos (rdL F (f + m) m)
  generalize dec (rdL F f m) = A at *
  generalize dec (rdL F (f + m) m) = B at *
  have e0 : Bst.none.ck.num = 0 := rfl
  by_cases a : A.err = 0
  · have ha := pa a
    have s1 : Bst.none.step 0 A = ⟨0, A⟩ := by unfold Bst.step; rw [if_pos ⟨a, by omega⟩]
    rw [s1]
    by_cases b : B.err = 0
    · have hb := pb b
      by_cases c : A.num < B.num
      · refine Or.inr (Or.inr ⟨b, Or.inr ⟨a, c⟩, hb, ?_⟩)
        unfold Bst.step; rw [if_pos ⟨b, c⟩]
      · refine Or.inr (Or.inl ⟨a, Or.inr ⟨b, by omega⟩, ha, ?_⟩)
        unfold Bst.step; rw [if_neg (fun k => c k.2)]
    · refine Or.inr (Or.inl ⟨a, Or.inl b, ha, ?_⟩)
      unfold Bst.step; rw [if_neg (fun k => b k.1)]
  · have s1 : Bst.none.step 0 A = .none := by unfold Bst.step; rw [if_neg (fun k => a k.1)]
    rw [s1]
    by_cases b : B.err = 0
    · have hb := pb b
      refine Or.inr (Or.inr ⟨b, Or.inl a, hb, ?_⟩)
      unfold Bst.step; rw [if_pos ⟨b, by omega⟩]
    · refine Or.inl ⟨a, b, ?_⟩
      unfold Bst.step; rw [if_neg (fun k => b k.1)]
theorem nwk_data (F : Fl) (f m : Nat) : Byt (nwk F f m 2).ck.data := by
  have st : ∀ (b : Bst) (i : Int) (c : Ck), Byt b.ck.data → Byt c.data → Byt (b.step i c).ck.data := fun b i c h1 h2 => by
    unfold Bst.step; split
    · exact h2
    · exact h1
  rw [nwk_two]
  exact st _ _ _ (st _ _ _ (fun b hb => by cases hb) (dec_byt (rdL_byt _ _ _))) (dec_byt (rdL_byt _ _ _))

set_option maxHeartbeats 3200000 in
theorem rnewest_any (H : IsRf w S hr gp gw cp cw pb cb bv F kp) (hd : F.down = false) (f n : Nat) (hfn : f + n ≤ F.n) (hn2 : 2 ≤ n) :
    Calls Tryz.prog 44 #[P0 hr, .agg #[.int .i64 f, .int .i64 n]] w fun e w' => ∃ dv, e = .returned (.tuple #[.agg #[.int .i64 (nwk F f (n / 2) 2).ck.num, .int .i64 (nwk F f (n / 2) 2).ck.slot, .int .i64 (nwk F f (n / 2) 2).ck.last, dv], .int .i64 (nwH (nwk F f (n / 2) 2))]) ∧ w'.ownsRow w.heap.size 5 1 dv (nwk F f (n / 2) 2).ck.data.length (ints .u8 (nwk F f (n / 2) 2).ck.data) ∧ Below w.heap.size w w' := by
  obtain ⟨B, hB⟩ : ∃ B, (w.alloc (.cells #[.int .i64 f, .int .i64 n] 32)).alloc (.cells #[.int .i64 0, .int .i64 0, .int .i64 0, .slice none 0 0] 88) = B := ⟨_, rfl⟩
  have HBB : Hid (Below w.heap.size w B) := hB ▸ ((Below.refl _ _).alloc (Nat.le_refl _) _).alloc (by simp) _
  have HSZ : Hid (B.heap.size = w.heap.size + 2) := by show _ = _; rw [← hB]; simp
  have HBX : Hid (∀ x, Below B.heap.size B x → (x.cell? ⟨w.heap.size, 0, none⟩ = some (.int .i64 f) ∧ x.cell? ⟨w.heap.size, 1, none⟩ = some (.int .i64 n)) ∧ (x.cell? ⟨w.heap.size + 1, 0, none⟩ = some (.int .i64 0) ∧ x.cell? ⟨w.heap.size + 1, 1, none⟩ = some (.int .i64 0) ∧ x.cell? ⟨w.heap.size + 1, 2, none⟩ = some (.int .i64 0) ∧ x.cell? ⟨w.heap.size + 1, 3, none⟩ = some (.slice none 0 0)) ∧ ∀ o, x.frozen? ⟨w.heap.size + 1, o, none⟩ = false) := fun x hx => by
    have hs := unhide HSZ
    have c : ∀ b o, b < w.heap.size + 2 → x.cell? ⟨b, o, none⟩ = B.cell? ⟨b, o, none⟩ := fun b o hb => hx.cell (p := ⟨b, o, none⟩) (by show b < _; omega)
    have d : ∀ b o, b < w.heap.size + 2 → x.frozen? ⟨b, o, none⟩ = B.frozen? ⟨b, o, none⟩ := fun b o hb => World.frozen?_of_block (w := B) (hx.block b (by omega))
    refine ⟨⟨?_, ?_⟩, ⟨?_, ?_, ?_, ?_⟩, fun o => ?_⟩
    · rw [c _ _ (by omega), ← hB]; simp [go_sem, World.cell?_alloc_old]
    · rw [c _ _ (by omega), ← hB]; simp [go_sem, World.cell?_alloc_old]
    · rw [c _ _ (by omega), ← hB]; simp [go_sem]
    · rw [c _ _ (by omega), ← hB]; simp [go_sem]
    · rw [c _ _ (by omega), ← hB]; simp [go_sem]
    · rw [c _ _ (by omega), ← hB]; simp [go_sem]
    · rw [d _ _ (by omega), ← hB]; simp [go_sem]
  have HH0 : Hid (∀ x, Below B.heap.size B x → _) := fun x hx => rhalf_any ((H.below (unhide HBB)).below hx) hd f n hfn hn2 0 f (Or.inl ⟨rfl, rfl⟩)
  have HH1 : Hid (∀ x, Below B.heap.size B x → _) := fun x hx => rhalf_any ((H.below (unhide HBB)).below hx) hd f n hfn hn2 1 (f + n / 2) (Or.inr ⟨rfl, rfl⟩)
  have HC := hide (nwk_cases F f (n / 2))
  clear H
  generalize dec (rdL F f (n / 2)) = c0 at HH0 HC
  generalize dec (rdL F (f + n / 2) (n / 2)) = c1 at HH1 HC
  generalize hgc : nwk F f (n / 2) 2 = c at HC
  generalize hd0 : decide (c0.err = 0) = d0 at HH0
  generalize hd1 : decide (c1.err = 0) = d1 at HH1
  obtain ⟨⟨q0, q1⟩, _, _⟩ := unhide HBX B (Below.refl _ _)
  go_enter Tryz.func44, Tryz.ntmps44
  go_wp2_with (first | rw [hB] | fail)
  refine (unhide HH0 B (Below.refl _ _)).mono ?_
  rintro e w3 ⟨dv, rfl, o3, b3⟩
  obtain ⟨na, nc, rfl⟩ := own_shape o3
  obtain ⟨W3, hW3⟩ : ∃ W3, w3.alloc (.cells #[.int .i64 c0.num, .int .i64 c0.slot, .int .i64 c0.last, .slice na c0.data.length nc] 88) = W3 := ⟨_, rfl⟩
  have bW3 : Below w3.heap.size w3 W3 := hW3 ▸ (Below.refl _ _).alloc (Nat.le_refl _) _
  have HSW3 : Hid (W3.heap.size = w3.heap.size + 1) := by show _ = _; rw [← hW3]; simp
  have HB3 : Hid (Below B.heap.size B W3) := b3.trans (bW3.mono b3.size)
  have HO3 := hide (own_below o3 bW3)
  have HX3 : Hid (∀ x, Below W3.heap.size W3 x → x.cell? ⟨w3.heap.size, 0, none⟩ = some (.int .i64 c0.num) ∧ x.cell? ⟨w3.heap.size, 1, none⟩ = some (.int .i64 c0.slot) ∧ x.cell? ⟨w3.heap.size, 2, none⟩ = some (.int .i64 c0.last) ∧ x.cell? ⟨w3.heap.size, 3, none⟩ = some (.slice na c0.data.length nc)) := fun x hx => by
    obtain ⟨a, b, c, d, _⟩ := box4f (w := w3) (w1 := x) (x0 := .int .i64 c0.num) (x1 := .int .i64 c0.slot) (x2 := .int .i64 c0.last) (x3 := .slice na c0.data.length nc) (t := 88) (by rw [hW3, ← unhide HSW3]; exact hx)
    exact ⟨a, b, c, d⟩
  clear b3 o3 bW3 q0 q1
  obtain ⟨⟨q0, q1⟩, _, _⟩ := unhide HBX W3 (unhide HB3)
  go_wp2_with (first | rw [hW3] | fail)
  refine (unhide HH1 W3 (unhide HB3)).mono ?_
  rintro e w4 ⟨dv, rfl, o4, b4⟩
  obtain ⟨ma, mc, rfl⟩ := own_shape o4
  obtain ⟨W4, hW4⟩ : ∃ W4, w4.alloc (.cells #[.int .i64 c1.num, .int .i64 c1.slot, .int .i64 c1.last, .slice ma c1.data.length mc] 88) = W4 := ⟨_, rfl⟩
  have bW4 : Below w4.heap.size w4 W4 := hW4 ▸ (Below.refl _ _).alloc (Nat.le_refl _) _
  have b4W : Below W3.heap.size W3 W4 := b4.trans (bW4.mono b4.size)
  have HB4 : Hid (Below B.heap.size B W4) := (unhide HB3).trans (b4W.mono (unhide HB3).size)
  have HWB : Hid (Below w.heap.size w W4) := (unhide HBB).trans ((unhide HB4).mono (unhide HBB).size)
  have HO4 := hide (own_below o4 bW4)
  have HO3' := hide (own_below (unhide HO3) b4W)
  obtain ⟨x0, x1, x2, x3⟩ := unhide HX3 W4 b4W
  obtain ⟨y0, y1, y2, y3, _⟩ := box4f (w := w4) (w1 := W4) (x0 := .int .i64 c1.num) (x1 := .int .i64 c1.slot) (x2 := .int .i64 c1.last) (x3 := .slice ma c1.data.length mc) (t := 88) (by rw [hW4]; exact Below.refl _ _)
  have HLT : Hid (w.heap.size + 1 < B.heap.size ∧ B.heap.size ≤ W3.heap.size) := ⟨by have := unhide HSZ; omega, (unhide HB3).size⟩
  clear b4 o4 bW4 b4W q0 q1
  obtain ⟨⟨q0, q1⟩, ⟨e0, e1, e2, e3⟩, e4⟩ := unhide HBX W4 (unhide HB4)
  rcases unhide HC with ⟨h0, h1, hc⟩ | ⟨h0, h1, hp, hc⟩ | ⟨h1, h0, hp, hc⟩
  · have f0 : d0 = false := by rw [← hd0]; simp [h0]
    have f1 : d1 = false := by rw [← hd1]; simp [h1]
    subst f0 f1
    clear hd0 hd1 h0 h1
    go_wp2_with (first | rw [hW4] | fail)
    obtain ⟨k0, k1, k2, k3⟩ := st4_cells (v0 := .int .i64 0) (v1 := .int .i64 0) (v2 := .int .i64 0) (v3 := .slice none 0 0) e0 e1 e2 e3
    have hbl := st4_below (unhide HWB) (show w.heap.size ≤ w.heap.size + 1 by omega) (.int .i64 0) (.int .i64 0) (.int .i64 0) (.slice none 0 0)
    generalize (((W4.setCell ⟨w.heap.size + 1, 0, none⟩ (.int .i64 0)).setCell ⟨w.heap.size + 1, 1, none⟩ (.int .i64 0)).setCell ⟨w.heap.size + 1, 2, none⟩ (.int .i64 0)).setCell ⟨w.heap.size + 1, 3, none⟩ (.slice none 0 0) = Y at *
    refine bodyPost_ret (v := .tuple #[.agg #[.int .i64 0, .int .i64 0, .int .i64 0, .slice none 0 0], .int .i64 (-1)]) (by simp [results, Tryz.results44, go_sem, k0, k1, k2, k3]) rfl ?_
    rw [hc]
    exact ⟨_, rfl, World.ownsRow_nil _ _ _ _, hbl⟩
  · have f0 : d0 = true := by rw [← hd0]; simp [h0]
    subst f0
    have HPO := hide hp
    clear hp
    rcases h1 with h1 | ⟨h1, h2⟩
    · have f1 : d1 = false := by rw [← hd1]; simp [h1]
      subst f1
      clear hd0 hd1 h0 h1
      go_wp2_with (first | rw [hW4] | fail)
      obtain ⟨k0, k1, k2, k3⟩ := st4_cells (v0 := .int .i64 c0.num) (v1 := .int .i64 c0.slot) (v2 := .int .i64 c0.last) (v3 := .slice na c0.data.length nc) e0 e1 e2 e3
      have hbl := st4_below (unhide HWB) (show w.heap.size ≤ w.heap.size + 1 by omega) (.int .i64 c0.num) (.int .i64 c0.slot) (.int .i64 c0.last) (.slice na c0.data.length nc)
      have hlt6 : w.heap.size + 1 < B.heap.size := by have := unhide HLT; omega
      have hor := own_set (own_set (own_set (own_set (unhide HO3') (p := ⟨w.heap.size + 1, 0, none⟩) hlt6 (.int .i64 c0.num)) (p := ⟨w.heap.size + 1, 1, none⟩) hlt6 (.int .i64 c0.slot)) (p := ⟨w.heap.size + 1, 2, none⟩) hlt6 (.int .i64 c0.last)) (p := ⟨w.heap.size + 1, 3, none⟩) hlt6 (.slice na c0.data.length nc)
      generalize (((W4.setCell ⟨w.heap.size + 1, 0, none⟩ (.int .i64 c0.num)).setCell ⟨w.heap.size + 1, 1, none⟩ (.int .i64 c0.slot)).setCell ⟨w.heap.size + 1, 2, none⟩ (.int .i64 c0.last)).setCell ⟨w.heap.size + 1, 3, none⟩ (.slice na c0.data.length nc) = Y at *
      refine bodyPost_ret (v := .tuple #[.agg #[.int .i64 c0.num, .int .i64 c0.slot, .int .i64 c0.last, .slice na c0.data.length nc], .int .i64 0]) (by simp [results, Tryz.results44, go_sem, k0, k1, k2, k3]) rfl ?_
      have hnh : nwH ⟨0, c0⟩ = 0 := by unfold nwH; rw [if_pos (by show (0 : Int) < c0.num; have := unhide HPO; omega)]
      rw [hc, hnh]
      exact ⟨_, rfl, own_lower hor (by omega), hbl⟩
    · have f1 : d1 = true := by rw [← hd1]; simp [h1]
      subst f1
      clear hd0 hd1 h0 h1
      go_wp2_with (first | rw [hW4] | fail)
      obtain ⟨k0, k1, k2, k3⟩ := st4_cells (v0 := .int .i64 c0.num) (v1 := .int .i64 c0.slot) (v2 := .int .i64 c0.last) (v3 := .slice na c0.data.length nc) e0 e1 e2 e3
      have hbl := st4_below (unhide HWB) (show w.heap.size ≤ w.heap.size + 1 by omega) (.int .i64 c0.num) (.int .i64 c0.slot) (.int .i64 c0.last) (.slice na c0.data.length nc)
      have hlt6 : w.heap.size + 1 < B.heap.size := by have := unhide HLT; omega
      have hor := own_set (own_set (own_set (own_set (unhide HO3') (p := ⟨w.heap.size + 1, 0, none⟩) hlt6 (.int .i64 c0.num)) (p := ⟨w.heap.size + 1, 1, none⟩) hlt6 (.int .i64 c0.slot)) (p := ⟨w.heap.size + 1, 2, none⟩) hlt6 (.int .i64 c0.last)) (p := ⟨w.heap.size + 1, 3, none⟩) hlt6 (.slice na c0.data.length nc)
      generalize (((W4.setCell ⟨w.heap.size + 1, 0, none⟩ (.int .i64 c0.num)).setCell ⟨w.heap.size + 1, 1, none⟩ (.int .i64 c0.slot)).setCell ⟨w.heap.size + 1, 2, none⟩ (.int .i64 c0.last)).setCell ⟨w.heap.size + 1, 3, none⟩ (.slice na c0.data.length nc) = Y at *
      refine bodyPost_ret (v := .tuple #[.agg #[.int .i64 c0.num, .int .i64 c0.slot, .int .i64 c0.last, .slice na c0.data.length nc], .int .i64 0]) (by simp [results, Tryz.results44, go_sem, k0, k1, k2, k3]) rfl ?_
      have hnh : nwH ⟨0, c0⟩ = 0 := by unfold nwH; rw [if_pos (by show (0 : Int) < c0.num; have := unhide HPO; omega)]
      rw [hc, hnh]
      exact ⟨_, rfl, own_lower hor (by omega), hbl⟩
  · have f1 : d1 = true := by rw [← hd1]; simp [h1]
    subst f1
    have HPO := hide hp
    clear hp
    rcases h0 with h0 | ⟨h0, h2⟩
    · have f0 : d0 = false := by rw [← hd0]; simp [h0]
      subst f0
      clear hd0 hd1 h0 h1
      go_wp2_with (first | rw [hW4] | fail)
      obtain ⟨k0, k1, k2, k3⟩ := st4_cells (v0 := .int .i64 c1.num) (v1 := .int .i64 c1.slot) (v2 := .int .i64 c1.last) (v3 := .slice ma c1.data.length mc) e0 e1 e2 e3
      have hbl := st4_below (unhide HWB) (show w.heap.size ≤ w.heap.size + 1 by omega) (.int .i64 c1.num) (.int .i64 c1.slot) (.int .i64 c1.last) (.slice ma c1.data.length mc)
      have hlt6 : w.heap.size + 1 < W3.heap.size := by have := unhide HLT; omega
      have hor := own_set (own_set (own_set (own_set (unhide HO4) (p := ⟨w.heap.size + 1, 0, none⟩) hlt6 (.int .i64 c1.num)) (p := ⟨w.heap.size + 1, 1, none⟩) hlt6 (.int .i64 c1.slot)) (p := ⟨w.heap.size + 1, 2, none⟩) hlt6 (.int .i64 c1.last)) (p := ⟨w.heap.size + 1, 3, none⟩) hlt6 (.slice ma c1.data.length mc)
      generalize (((W4.setCell ⟨w.heap.size + 1, 0, none⟩ (.int .i64 c1.num)).setCell ⟨w.heap.size + 1, 1, none⟩ (.int .i64 c1.slot)).setCell ⟨w.heap.size + 1, 2, none⟩ (.int .i64 c1.last)).setCell ⟨w.heap.size + 1, 3, none⟩ (.slice ma c1.data.length mc) = Y at *
      refine bodyPost_ret (v := .tuple #[.agg #[.int .i64 c1.num, .int .i64 c1.slot, .int .i64 c1.last, .slice ma c1.data.length mc], .int .i64 1]) (by simp [results, Tryz.results44, go_sem, k0, k1, k2, k3]) rfl ?_
      have hnh : nwH ⟨1, c1⟩ = 1 := by unfold nwH; rw [if_pos (by show (0 : Int) < c1.num; have := unhide HPO; omega)]
      rw [hc, hnh]
      exact ⟨_, rfl, own_lower hor (by omega), hbl⟩
    · have f0 : d0 = true := by rw [← hd0]; simp [h0]
      subst f0
      clear hd0 hd1 h0 h1
      go_wp2_with (first | rw [hW4] | fail)
      obtain ⟨k0, k1, k2, k3⟩ := st4_cells (v0 := .int .i64 c1.num) (v1 := .int .i64 c1.slot) (v2 := .int .i64 c1.last) (v3 := .slice ma c1.data.length mc) e0 e1 e2 e3
      have hbl := st4_below (unhide HWB) (show w.heap.size ≤ w.heap.size + 1 by omega) (.int .i64 c1.num) (.int .i64 c1.slot) (.int .i64 c1.last) (.slice ma c1.data.length mc)
      have hlt6 : w.heap.size + 1 < W3.heap.size := by have := unhide HLT; omega
      have hor := own_set (own_set (own_set (own_set (unhide HO4) (p := ⟨w.heap.size + 1, 0, none⟩) hlt6 (.int .i64 c1.num)) (p := ⟨w.heap.size + 1, 1, none⟩) hlt6 (.int .i64 c1.slot)) (p := ⟨w.heap.size + 1, 2, none⟩) hlt6 (.int .i64 c1.last)) (p := ⟨w.heap.size + 1, 3, none⟩) hlt6 (.slice ma c1.data.length mc)
      generalize (((W4.setCell ⟨w.heap.size + 1, 0, none⟩ (.int .i64 c1.num)).setCell ⟨w.heap.size + 1, 1, none⟩ (.int .i64 c1.slot)).setCell ⟨w.heap.size + 1, 2, none⟩ (.int .i64 c1.last)).setCell ⟨w.heap.size + 1, 3, none⟩ (.slice ma c1.data.length mc) = Y at *
      refine bodyPost_ret (v := .tuple #[.agg #[.int .i64 c1.num, .int .i64 c1.slot, .int .i64 c1.last, .slice ma c1.data.length mc], .int .i64 1]) (by simp [results, Tryz.results44, go_sem, k0, k1, k2, k3]) rfl ?_
      have hnh : nwH ⟨1, c1⟩ = 1 := by unfold nwH; rw [if_pos (by show (0 : Int) < c1.num; have := unhide HPO; omega)]
      rw [hc, hnh]
      exact ⟨_, rfl, own_lower hor (by omega), hbl⟩
end Go.Proofs.YtiijbklaapaheaaGreat
