/- Several texts as one. -/
import Derived.Test.YtiijbklaapaheaaGreatKM
import Derived.Laws.BitsAllLaws

/- The document's Erase. -/
namespace Go.Proofs.YtiijbklaapaheaaGreat
open Go.RowKit
set_option maxRecDepth 100000

variable {w : World} {S : Nat → Prop} {hr gp gw cp cw : Nat} {pb cb : Nat → Nat} {bv : Nat → Nat → Value} {F : Fl} {kp : Int}

theorem PgAt.congr {w : World} {b : Nat} {st st' : Nat → Int} {bv bv' : Nat → Value} (h : PgAt w b st bv) (h1 : ∀ j, j < 16 → st j = st' j) (h2 : ∀ j, j < 16 → bv j = bv' j) : PgAt w b st' bv' := by
  intro j hj
  rw [← h1 j hj, ← h2 j hj]
  exact h j hj

theorem IsRf.setWear (H : IsRf w S hr gp gw cp cw pb cb bv F kp) (i : Nat) (hi : i < F.n) (x : Int) : IsRf (w.setCell ⟨gw, i, none⟩ (.int .i64 x)) S hr gp gw cp cw pb cb bv (F.setWear i x) kp := by
  obtain ⟨l1, l2, l3, l4⟩ := H.rlt
  have hu : Upd (fun k => k = gw) w.heap.size w (w.setCell ⟨gw, i, none⟩ (.int .i64 x)) := (Upd.refl (fun k => k = gw) w.heap.size w).setCell (p := ⟨gw, i, none⟩) (Or.inl rfl) _
  have cc : ∀ b o, b < w.heap.size → b ≠ gw → (w.setCell ⟨gw, i, none⟩ (.int .i64 x)).cell? ⟨b, o, none⟩ = w.cell? ⟨b, o, none⟩ := fun b o hb hne => hu.cell (p := ⟨b, o, none⟩) hb hne
  refine ⟨H.d1, H.d2, H.d3, H.s1, H.s2, H.s3, H.le, H.pos, H.fitp, H.fitw, ?_, ?_, ?_, ?_, ?_, fun o => by rw [World.frozen?_setCell]; exact H.frR o, fun o => by rw [World.frozen?_setCell]; exact H.frP o, fun o => by rw [World.frozen?_setCell]; exact H.frW o,
    fun k hk => ?_, fun k hk => ?_, H.room, H.away, fun k hk j hj => ?_, H.shape, fun k j hk hj h2 => (H.bytes k j hk hj h2).upd hu (Nat.le_refl _) (fun k _ hnk c => hnk (Or.inr (Or.inr (Or.inl c)))), H.keep, H.cnt0, H.cnt1, H.full, H.stOk⟩
  · rw [cc _ _ l1 H.d2]; exact H.c0
  · rw [cc _ _ l1 H.d2]; exact H.c1
  · rw [cc _ _ l1 H.d2]; exact H.c2
  · rw [cc _ _ l1 H.d2]; exact H.c3
  · rw [cc _ _ l1 H.d2]; exact H.c4
  · show _ = some (Value.int .i64 (if k = i then x else F.wear k))
    by_cases c : k = i
    · subst c; rw [if_pos rfl]; exact cs_same (H.wear k hk)
    · rw [if_neg c, cs_other (addr_ne (Or.inr (fun e => c e.symm)))]; exact H.wear k hk
  · rw [cc _ _ l2 H.d3]; exact H.page k hk
  · have hne : pb k ≠ gw := fun e => H.away k hk (Or.inr (Or.inr (Or.inl e)))
    rw [cc _ _ (l4 k hk) hne, cc _ _ (l4 k hk) hne, cc _ _ (l4 k hk) hne]
    exact H.cells k hk j hj

/-- New pages in place, and one more wear. -/
theorem IsRf.anewIn (H : IsRf w S hr gp gw cp cw pb cb bv F kp) (hS : ∀ k, S k → k < w.heap.size) {w3 : World} (hu : Upd (fun _ => False) w.heap.size w w3) (i : Nat) (hi : i < F.n) (pl cpl : Nat) (hroom : 16 ≤ cpl) (hpl : w.heap.size ≤ pl) (s : Int) (hs : s = 0 ∨ s = 1) (hPg : PgAt w3 pl (fun _ => s) (fun _ => .slice none 0 0)) :
    IsRfE ((w3.setCell ⟨gp, i, none⟩ (.slice (some ⟨pl, 0, none⟩) 16 cpl)).setCell ⟨gw, i, none⟩ (.int .i64 (wrap64 (F.wear i + 1)))) S hr gp gw cp cw (F.anew i s ⟨#[]⟩) ∧
    Upd (OnlyRf hr gp gw) w.heap.size w ((w3.setCell ⟨gp, i, none⟩ (.slice (some ⟨pl, 0, none⟩) 16 cpl)).setCell ⟨gw, i, none⟩ (.int .i64 (wrap64 (F.wear i + 1)))) := by
  obtain ⟨l1, l2, l3, l4⟩ := H.rlt
  have hu1 : Upd (fun k => k = gp) w.heap.size w (w3.setCell ⟨gp, i, none⟩ (.slice (some ⟨pl, 0, none⟩) 16 cpl)) := (hu.mono (S' := fun k => k = gp) (Nat.le_refl _) (fun _ _ c => c.elim)).setCell (p := ⟨gp, i, none⟩) (Or.inl rfl) _
  have gpc : ∀ o, w3.cell? ⟨gp, o, none⟩ = w.cell? ⟨gp, o, none⟩ := fun o => hu.cell (p := ⟨gp, o, none⟩) l2 id
  have gpf : ∀ o, w3.frozen? ⟨gp, o, none⟩ = false := fun o => (hu.frozen (p := ⟨gp, o, none⟩) l2 id).trans (H.frP o)
  have hne : pl ≠ gp := by omega
  have estk : ∀ k, k < 16 → (F.fill i 16 s ⟨#[]⟩).st i k = s := fun k hk => by show (if i = i ∧ k < 16 then _ else _) = _; rw [if_pos ⟨rfl, hk⟩]
  have hI := H.install hu1 (fun o => by rw [World.frozen?_setCell]; exact gpf o) hS i hi pl cpl hroom hpl (cs_same (u := .slice (some ⟨pb i, 0, none⟩) 16 (cb i)) (by rw [gpc]; exact H.page i hi)) (fun k hk => by rw [cs_other (addr_ne (Or.inr hk.symm)), gpc]) (F.fill i 16 s ⟨#[]⟩) rfl rfl rfl rfl rfl
    (fun k hk => by funext k'; show (if k = i ∧ k' < 16 then _ else _) = _; rw [if_neg (fun c => hk c.1)]) (fun k hk => by funext k'; show (if k = i ∧ k' < 16 then _ else _) = _; rw [if_neg (fun c => hk c.1)]) (fun _ => .slice none 0 0)
    ((hPg.keep (Below.heap_setCell _ _ _ _ hne)).congr (fun k hk => (estk k hk).symm) (fun _ _ => rfl)) (fun _ _ => ⟨_, _, _, rfl⟩) (fun k hk h2 => by rw [estk k hk] at h2; omega) (fun k hk h2 => by rw [estk k hk] at h2; omega) (fun k hk => by rw [estk k hk]; omega)
  exact ⟨⟨_, _, _, _, hI.setWear i hi (wrap64 (F.wear i + 1))⟩, (onlyR_gp (hr := hr) (gw := gw) hu1).setCell (p := ⟨gw, i, none⟩) (Or.inl (Or.inr (Or.inr rfl))) _⟩

theorem torn_step (k j : Nat) : (if j = k then (1 : Int) else if j < k then 1 else 0) = if j < k + 1 then 1 else 0 := by
  by_cases c : j = k
  · rw [if_pos c, if_pos (by omega)]
  · rw [if_neg c]
    by_cases d : j < k
    · rw [if_pos d, if_pos (by omega)]
    · rw [if_neg d, if_neg (by omega)]

theorem made_at3 (t : Nat) (ht : t < 16 * 3) : (madeCells #[.bool false, .bool false, .slice none 0 0] (16 * 3)).toList[t]? = some ((#[.bool false, .bool false, .slice none 0 0] : Array Value)[t % 3]!) := by
  unfold madeCells
  rw [Array.getElem?_toList, Array.getElem?_map, Array.getElem?_range, if_pos ht]
  rfl

theorem made_pages {w2 : World} {B pl : Nat} (ho : w2.ownsRow B 67 3 (.slice (some ⟨pl, 0, none⟩) 16 16) 16 (madeCells #[.bool false, .bool false, .slice none 0 0] (16 * 3)).toList) :
    B ≤ pl ∧ PgAt w2 pl (fun _ => 0) (fun _ => .slice none 0 0) ∧ ∀ o, w2.frozen? ⟨pl, o, none⟩ = false := by
  have ho' := ho
  rcases ho'.2 with ⟨h, _⟩ | ⟨pl', cpl, cur, h, hB, hh, hcap, _⟩
  · cases h
  simp only [Value.slice.injEq, Option.some.injEq, Addr.mk.injEq, and_true, true_and] at h
  obtain ⟨rfl, rfl⟩ := h
  have cell : ∀ t v, (madeCells #[.bool false, .bool false, .slice none 0 0] (16 * 3)).toList[t]? = some v → w2.cell? ⟨pl, t, none⟩ = some v := fun t v h => by
    have := ho.cells (g := pl) rfl t v h
    have hadd : (⟨pl, 0, none⟩ : Addr).add t = ⟨pl, t, none⟩ := by unfold Addr.add; split <;> simp_all
    rw [hadd] at this
    exact this
  refine ⟨hB, fun j hj => ⟨?_, ?_, ?_⟩, fun o => ho.frozenAt o⟩
  · refine cell _ _ ((made_at3 _ (by omega)).trans ?_)
    rw [show j * 3 % 3 = 0 by omega]; rfl
  · refine cell _ _ ((made_at3 _ (by omega)).trans ?_)
    rw [show (j * 3 + 1) % 3 = 1 by omega]; rfl
  · refine cell _ _ ((made_at3 _ (by omega)).trans ?_)
    rw [show (j * 3 + 2) % 3 = 2 by omega]; rfl

set_option maxHeartbeats 800000 in
theorem rerase_err (H : IsRf w S hr gp gw cp cw pb cb bv F kp) (i er : Int) (he : F.look i 0 = er) (h0 : er ≠ 0) :
    Calls Tryz.prog 24 #[P0 hr, .int .i64 i] w fun e w' => e = .returned (.int .i64 er) ∧ w = w' := by
  have HL := hide (look_any H i 0)
  rw [he] at HL
  clear H he
  go_enter Tryz.func24, Tryz.ntmps24
  go_wp2_with fail
  refine (unhide HL).mono ?_
  rintro e w1 ⟨rfl, rfl⟩
  go_wp2
  go_ret
  exact ⟨rfl, rfl⟩

set_option maxHeartbeats 1600000 in
theorem rerase_none (H : IsRf w S hr gp gw cp cw pb cb bv F kp) (i : Nat) (hlk : F.look i 0 = 0) (F1 : Fl) (HBn : Calls Tryz.prog 51 #[P0 hr] w fun e w' => e = .returned (.bool true) ∧ IsRf w' S hr gp gw cp cw pb cb bv F1 kp ∧ Upd (OnlyRf hr gp gw) w.heap.size w w') (hk : kp % 3 = 0) :
    Calls Tryz.prog 24 #[P0 hr, .int .i64 i] w fun e w' => e = .returned (.int .i64 7) ∧ IsRfE w' S hr gp gw cp cw F1 ∧ Upd (OnlyRf hr gp gw) w.heap.size w w' := by
  have HL := hide (look_any H i 0)
  rw [hlk] at HL
  have HB := hide HBn
  have HK := hide hk
  clear H HBn hlk hk
  go_enter Tryz.func24, Tryz.ntmps24
  go_wp2_with fail
  refine (unhide HL).mono ?_
  rintro e w1 ⟨rfl, rfl⟩
  go_wp2_with fail
  refine (unhide HB).mono ?_
  rintro e w1 ⟨rfl, hI1, hU1⟩
  have HI1 := hide hI1
  have HU1 := hide hU1
  have HH := hide (how_any kp w1)
  rw [unhide HK] at HH
  have g4 := hI1.c3
  clear hI1 hU1
  go_wp2_with fail
  refine (unhide HH).mono ?_
  rintro e w2 ⟨rfl, rfl⟩
  go_wp2
  go_ret
  exact ⟨rfl, ⟨_, _, _, _, unhide HI1⟩, unhide HU1⟩

set_option maxRecDepth 100000 in
set_option maxHeartbeats 3200000 in
theorem rerase_zero (H : IsRf w S hr gp gw cp cw pb cb bv F kp) (hS : ∀ k, S k → k < w.heap.size) (i : Nat) (hlk : F.look i 0 = 0) (went : Bool) (F1 : Fl) (HBn : Calls Tryz.prog 51 #[P0 hr] w fun e w' => e = .returned (.bool went) ∧ IsRf w' S hr gp gw cp cw pb cb bv F1 kp ∧ Upd (OnlyRf hr gp gw) w.heap.size w w') (hi1 : i < F1.n) (hmode : went = false ∨ kp % 3 = 2) :
    Calls Tryz.prog 24 #[P0 hr, .int .i64 i] w fun e w' => e = .returned (.int .i64 (if went then 7 else 0)) ∧ IsRfE w' S hr gp gw cp cw (F1.anew i 0 ⟨#[]⟩) ∧ Upd (OnlyRf hr gp gw) w.heap.size w w' := by
  obtain ⟨i0, hi0, hz0, hz1, hz2⟩ := info_parts Tryz.info67
  have HL := hide (look_any H i 0)
  rw [hlk] at HL
  have HB := hide HBn
  clear H HBn hlk
  cases went with
  | false =>
    go_enter Tryz.func24, Tryz.ntmps24
    go_wp2_with fail
    refine (unhide HL).mono ?_
    rintro e w1 ⟨rfl, rfl⟩
    go_wp2_with fail
    refine (unhide HB).mono ?_
    rintro e w1 ⟨rfl, hI1, hU1⟩
    have HI1 := hide hI1
    have HU1 := hide hU1
    have hl1 := hU1.size
    have d3 := hI1.c3
    have HH1 := hide (how_any kp w1)
    clear hI1 hU1 HL HB
    go_wp2_with (at_make; refine wpList_make_full _ rfl _ _ 50 rfl w1.heap.size 67 i0 (.agg #[.bool false, .bool false, .slice none 0 0]) 3 Tryz.underlying50 hi0 hz0 hz1 _ _ _ _ 16 rfl rfl rfl rfl ?b2 ?b3 (Nat.le_refl _) ?_)
    case b2 => rw [hz2]; omega
    case b3 => unfold maxLen; omega
    intro w2 ho hg
    obtain ⟨hpl, hPg, hfr⟩ := made_pages ho
    have hb2 : Below w1.heap.size w1 w2 := (Below.refl _ _).grown hg (Nat.le_refl _) (fun k h => by cases h)
    have HI2 := hide ((unhide HI1).below hb2)
    have HB2 := hide hb2
    have hplt : w1.heap.size < w2.heap.size := World.block_lt_of_cell? w2 _ (hPg 0 (by omega)).1
    have HPg := hide hPg
    have f0 := (unhide HI2).c0; have f1 := (unhide HI2).page i hi1; have f2 := (unhide HI2).c1; have f3 := (unhide HI2).c3; have f4 := (unhide HI2).frP; have f5 := (unhide HI2).frW; have f6 := (unhide HI2).wear i hi1; have f7 := (unhide HI2).fitp; have f8 := (unhide HI2).fitw
    obtain ⟨r1, r2, r3, _⟩ := (unhide HI1).rlt
    have dd1 := (unhide HI1).d1; have dd2 := (unhide HI1).d2; have dd3 := (unhide HI1).d3
    have hne : w1.heap.size ≠ gp := by omega
    have hne2 : w1.heap.size ≠ hr := by omega
    have hne3 : w1.heap.size ≠ gw := by omega
    clear ho hg hb2 hPg d3
    have FN := hide ((unhide HI1).anewIn (fun k hk => by have := hS k hk; omega) (Upd.of (unhide HB2)) i hi1 w1.heap.size 16 (Nat.le_refl _) (Nat.le_refl _) 0 (Or.inl rfl) (unhide HPg))
    go_wp2
    refine wp_loop_rounds 1 ?_
    rw [rounds_succ]
    go_wp2
    go_ret
    exact ⟨rfl, (unhide FN).1, (unhide HU1).trans ((unhide FN).2.less hl1)⟩
  | true =>
    go_enter Tryz.func24, Tryz.ntmps24
    go_wp2_with fail
    refine (unhide HL).mono ?_
    rintro e w1 ⟨rfl, rfl⟩
    go_wp2_with fail
    refine (unhide HB).mono ?_
    rintro e w1 ⟨rfl, hI1, hU1⟩
    have HI1 := hide hI1
    have HU1 := hide hU1
    have hl1 := hU1.size
    have d3 := hI1.c3
    have HH1 := hide (how_any kp w1)
    have hk2 : kp % 3 = 2 := by rcases hmode with h | h; cases h; exact h
    rw [hk2] at HH1
    clear hI1 hU1 HL HB
    go_wp2_with fail
    refine (unhide HH1).mono ?_
    rintro e wq ⟨rfl, rfl⟩
    go_wp2_with (at_make; refine wpList_make_full _ rfl _ _ 50 rfl w1.heap.size 67 i0 (.agg #[.bool false, .bool false, .slice none 0 0]) 3 Tryz.underlying50 hi0 hz0 hz1 _ _ _ _ 16 rfl rfl rfl rfl ?b2 ?b3 (Nat.le_refl _) ?_)
    case b2 => rw [hz2]; omega
    case b3 => unfold maxLen; omega
    intro w2 ho hg
    obtain ⟨hpl, hPg, hfr⟩ := made_pages ho
    have hb2 : Below w1.heap.size w1 w2 := (Below.refl _ _).grown hg (Nat.le_refl _) (fun k h => by cases h)
    have HI2 := hide ((unhide HI1).below hb2)
    have HB2 := hide hb2
    have hplt : w1.heap.size < w2.heap.size := World.block_lt_of_cell? w2 _ (hPg 0 (by omega)).1
    have HPg := hide hPg
    have f0 := (unhide HI2).c0; have f1 := (unhide HI2).page i hi1; have f2 := (unhide HI2).c1; have f3 := (unhide HI2).c3; have f4 := (unhide HI2).frP; have f5 := (unhide HI2).frW; have f6 := (unhide HI2).wear i hi1; have f7 := (unhide HI2).fitp; have f8 := (unhide HI2).fitw
    obtain ⟨r1, r2, r3, _⟩ := (unhide HI1).rlt
    have dd1 := (unhide HI1).d1; have dd2 := (unhide HI1).d2; have dd3 := (unhide HI1).d3
    have hne : w1.heap.size ≠ gp := by omega
    have hne2 : w1.heap.size ≠ hr := by omega
    have hne3 : w1.heap.size ≠ gw := by omega
    clear ho hg hb2 hPg d3
    have FN := hide ((unhide HI1).anewIn (fun k hk => by have := hS k hk; omega) (Upd.of (unhide HB2)) i hi1 w1.heap.size 16 (Nat.le_refl _) (Nat.le_refl _) 0 (Or.inl rfl) (unhide HPg))
    have HH2 := hide (how_any kp w2)
    rw [hk2] at HH2
    clear hk2
    go_wp2
    refine wp_loop_rounds 1 ?_
    rw [rounds_succ]
    go_wp2_with fail
    refine (unhide HH2).mono ?_
    rintro e wq ⟨rfl, rfl⟩
    go_wp2
    go_ret
    exact ⟨rfl, (unhide FN).1, (unhide HU1).trans ((unhide FN).2.less hl1)⟩

set_option maxRecDepth 100000 in
set_option maxHeartbeats 3200000 in
theorem rerase_torn (H : IsRf w S hr gp gw cp cw pb cb bv F kp) (hS : ∀ k, S k → k < w.heap.size) (i : Nat) (hlk : F.look i 0 = 0) (F1 : Fl) (HBn : Calls Tryz.prog 51 #[P0 hr] w fun e w' => e = .returned (.bool true) ∧ IsRf w' S hr gp gw cp cw pb cb bv F1 kp ∧ Upd (OnlyRf hr gp gw) w.heap.size w w') (hi1 : i < F1.n) (hk2 : kp % 3 = 1) :
    Calls Tryz.prog 24 #[P0 hr, .int .i64 i] w fun e w' => e = .returned (.int .i64 7) ∧ IsRfE w' S hr gp gw cp cw (F1.anew i 1 ⟨#[]⟩) ∧ Upd (OnlyRf hr gp gw) w.heap.size w w' := by
  obtain ⟨i0, hi0, hz0, hz1, hz2⟩ := info_parts Tryz.info67
  have HL := hide (look_any H i 0)
  rw [hlk] at HL
  have HB := hide HBn
  clear H HBn hlk
  go_enter Tryz.func24, Tryz.ntmps24
  go_wp2_with fail
  refine (unhide HL).mono ?_
  rintro e w1 ⟨rfl, rfl⟩
  go_wp2_with fail
  refine (unhide HB).mono ?_
  rintro e w1 ⟨rfl, hI1, hU1⟩
  have HI1 := hide hI1
  have HU1 := hide hU1
  have hl1 := hU1.size
  have d3 := hI1.c3
  have HH1 := hide (how_any kp w1)
  rw [hk2] at HH1
  clear hI1 hU1 HL HB
  go_wp2_with fail
  refine (unhide HH1).mono ?_
  rintro e wq ⟨rfl, rfl⟩
  go_wp2_with (at_make; refine wpList_make_full _ rfl _ _ 50 rfl w1.heap.size 67 i0 (.agg #[.bool false, .bool false, .slice none 0 0]) 3 Tryz.underlying50 hi0 hz0 hz1 _ _ _ _ 16 rfl rfl rfl rfl ?b2 ?b3 (Nat.le_refl _) ?_)
  case b2 => rw [hz2]; omega
  case b3 => unfold maxLen; omega
  intro w2 ho hg
  obtain ⟨hpl, hPg, hfr⟩ := made_pages ho
  have hfr0 := hfr
  have hb2 : Below w1.heap.size w1 w2 := (Below.refl _ _).grown hg (Nat.le_refl _) (fun k h => by cases h)
  have HI2 := hide ((unhide HI1).below hb2)
  have HB2 := hide hb2
  have hplt : w1.heap.size < w2.heap.size := World.block_lt_of_cell? w2 _ (hPg 0 (by omega)).1
  have HPg := hide hPg
  have f0 := (unhide HI2).c0; have f1 := (unhide HI2).page i hi1; have f2 := (unhide HI2).c1; have f3 := (unhide HI2).c3; have f4 := (unhide HI2).frP; have f5 := (unhide HI2).frW; have f6 := (unhide HI2).wear i hi1; have f7 := (unhide HI2).fitp; have f8 := (unhide HI2).fitw
  obtain ⟨r1, r2, r3, _⟩ := (unhide HI1).rlt
  have dd1 := (unhide HI1).d1; have dd2 := (unhide HI1).d2; have dd3 := (unhide HI1).d3
  have hne : w1.heap.size ≠ gp := by omega
  have hne2 : w1.heap.size ≠ hr := by omega
  have hne3 : w1.heap.size ≠ gw := by omega
  clear ho hg hb2 hPg d3
  have HK2 := hide hk2
  clear hk2 f0 f1 f2 f3 f4 f5 f6 hfr
  have HFR := hide hfr0
  clear hfr0
  go_wp2
  go_loopw [8] (fun c wr => ∃ k : Nat, k ≤ 16 ∧ c = .int .i64 k ∧ PgAt wr w1.heap.size (fun j => if j < k then 1 else 0) (fun _ => .slice none 0 0) ∧ Upd (fun x => x = w1.heap.size) w2.heap.size w2 wr ∧ ∀ o, wr.frozen? ⟨w1.heap.size, o, none⟩ = false) (fun c _ => 16 - (intOf c).toNat)
  case atStart => exact ⟨0, by omega, rfl, (unhide HPg).congr (fun j _ => by simp) (fun _ _ => rfl), Upd.refl _ _ _, unhide HFR⟩
  case round =>
    obtain ⟨k, hk, rfl, hP, hU, hF⟩ := hrel
    have hIr : IsRf wr S hr gp gw cp cw pb cb bv F1 kp := by
      have := (unhide HI1).upd (S' := fun x => x = w1.heap.size) (N := w1.heap.size) (((Upd.of (unhide HB2))).trans (hU.less (by omega))) (Nat.le_refl _) (fun k hk c => by omega)
      exact this
    have g0 := hIr.c0; have g1 := hIr.page i hi1; have g2 := hIr.c1; have g3 := hIr.c3; have g4 := hIr.frP; have g5 := hIr.frW; have g6 := hIr.wear i hi1
    have HH2 := hide (how_any kp wr)
    rw [unhide HK2] at HH2
    by_cases hlt : k < 16
    · obtain ⟨p0, p1, p2⟩ := hP k hlt
      have hkk : ¬ k < k := by omega
      simp only [if_neg hkk] at p0 p1
      simp at p0 p1
      have HP2 := hide ((hP.set k hlt 1 (.slice none 0 0)).congr (st' := fun j => if j < k + 1 then 1 else 0) (bv' := fun _ => .slice none 0 0) (fun j _ => torn_step k j) (fun j _ => by split <;> rfl))
      have HU := hide hU
      have HF := hide hF
      have hF0 := hF
      clear hP hU hF hIr g1 g2 g4 g5 g6
      go_wp2_with fail
      refine (unhide HH2).mono ?_
      rintro e wq ⟨rfl, rfl⟩
      go_wp2
      go_roundw
      case rel => exact ⟨k + 1, by omega, by go_num, unhide HP2, (((unhide HU).setCell (Or.inl rfl) _).setCell (Or.inl rfl) _).setCell (Or.inl rfl) _, fun o => by simp only [World.frozen?_setCell]; exact unhide HF o⟩
      case measure => simp [intOf]; omega
    · obtain rfl : k = 16 := by omega
      have hPP : PgAt wr w1.heap.size (fun _ => 1) (fun _ => .slice none 0 0) := hP.congr (fun j hj => by rw [if_pos hj]) (fun _ _ => rfl)
      have hu3 : Upd (fun _ => False) w1.heap.size w1 wr := (Upd.of (unhide HB2)).trans (hU.mono (by omega) (fun x hx c => by omega))
      have FN := hide ((unhide HI1).anewIn (fun k hk => by have := hS k hk; omega) hu3 i hi1 w1.heap.size 16 (Nat.le_refl _) (Nat.le_refl _) 1 (Or.inr rfl) hPP)
      clear hPP hu3 hP hU hF hIr
      go_wp2
      go_ret
      exact ⟨rfl, (unhide FN).1, (unhide HU1).trans ((unhide FN).2.less hl1)⟩

theorem rerase_all (H : IsRf w S hr gp gw cp cw pb cb bv F kp) (hS : ∀ k, S k → k < w.heap.size) (i : Int) :
    Calls Tryz.prog 24 #[P0 hr, .int .i64 i] w fun e w' => e = .returned (.int .i64 (F.erase i).1) ∧ IsRfE w' S hr gp gw cp cw (F.erase i).2 ∧ Upd (OnlyRf hr gp gw) w.heap.size w w' := by
  unfold Fl.erase
  have same : ∀ er : Int, (Calls Tryz.prog 24 #[P0 hr, .int .i64 i] w fun e w' => e = .returned (.int .i64 er) ∧ w = w') → Calls Tryz.prog 24 #[P0 hr, .int .i64 i] w fun e w' => e = .returned (.int .i64 er) ∧ IsRfE w' S hr gp gw cp cw F ∧ Upd (OnlyRf hr gp gw) w.heap.size w w' := fun er h => h.mono (by
    rintro e w' ⟨rfl, rfl⟩
    exact ⟨rfl, ⟨pb, cb, bv, kp, H⟩, Upd.refl _ _ _⟩)
  by_cases hd : F.down = true
  · rw [if_pos hd]
    exact same 7 (rerase_err H i 7 (by unfold Fl.look; rw [if_pos hd]) (by decide))
  rw [if_neg hd]
  by_cases hw : F.within i 0
  · rw [if_neg (not_not_intro hw)]
    have hlk : F.look i 0 = 0 := by unfold Fl.look; rw [if_neg hd, if_pos hw]
    obtain ⟨h1, h2, h3, h4⟩ := hw
    obtain ⟨i, rfl⟩ := nat_of h1
    have hi : i < F.n := by omega
    simp only [Int.toNat_natCast]
    have hn := (burntR_pg F).1
    have hb := rburn_any H
    by_cases c1 : F.cnt = 1
    · have hdt : decide (F.cnt = 1) = true := by simpa using c1
      rw [hdt] at hb
      have e1 : F.code = 7 := by unfold Fl.code; rw [if_pos c1]
      have eR : F.burntR = { F with cnt := 0, down := true } := by unfold Fl.burntR; rw [if_neg (by omega), if_pos c1]
      have eB : F.burnt = { F with cnt := 0 } := by rw [burnt_of F (by omega), c1]; rfl
      have hk := H.keep (by omega)
      rw [eR] at hb hn
      by_cases k2 : F.keep = 2
      · have e2 : F.changed (anewA i) 0 ⟨#[]⟩ = { ({ F with cnt := 0, down := true } : Fl).anew i 0 ⟨#[]⟩ with keep := 0 } := by unfold Fl.changed; rw [if_pos c1, if_pos k2, eB]; rfl
        rw [e1, e2]
        refine (rerase_zero H hS i hlk true _ hb (by rw [hn]; exact hi) (Or.inr (by omega))).mono ?_
        rintro e w' ⟨rfl, a, b⟩
        exact ⟨rfl, a.fallKeep rfl, b⟩
      · by_cases k1 : F.keep = 1
        · have e2 : F.changed (anewA i) 0 ⟨#[]⟩ = { ({ F with cnt := 0, down := true } : Fl).anew i 1 ⟨#[]⟩ with keep := 0 } := by unfold Fl.changed; rw [if_pos c1, if_neg k2, if_pos k1, eB]; rfl
          rw [e1, e2]
          refine (rerase_torn H hS i hlk _ hb (by rw [hn]; exact hi) (by omega)).mono ?_
          rintro e w' ⟨rfl, a, b⟩
          exact ⟨rfl, a.fallKeep rfl, b⟩
        · have e2 : F.changed (anewA i) 0 ⟨#[]⟩ = { ({ F with cnt := 0, down := true } : Fl) with keep := 0 } := by unfold Fl.changed; rw [if_pos c1, if_neg k2, if_neg k1, eB]; rfl
          rw [e1, e2]
          refine (rerase_none H i hlk _ hb (by omega)).mono ?_
          rintro e w' ⟨rfl, a, b⟩
          exact ⟨rfl, a.fallKeep rfl, b⟩
    · have hdt : decide (F.cnt = 1) = false := by simpa using c1
      rw [hdt] at hb
      have e1 : F.code = 0 := by unfold Fl.code; rw [if_neg c1]
      have eR : F.burntR = F.burnt := by unfold Fl.burntR Fl.burnt; rw [if_neg c1]
      have e2 : F.changed (anewA i) 0 ⟨#[]⟩ = F.burnt.anew i 0 ⟨#[]⟩ := by unfold Fl.changed; rw [if_neg c1]
      rw [e1, e2]
      rw [eR] at hb hn
      refine (rerase_zero H hS i hlk false _ hb (by rw [hn]; exact hi) (Or.inl rfl)).mono ?_
      rintro e w' ⟨rfl, a, b⟩
      exact ⟨rfl, a, b⟩
  · rw [if_pos hw]
    exact same 1 (rerase_err H i 1 (by unfold Fl.look; rw [if_neg hd, if_neg hw]) (by decide))

end Go.Proofs.YtiijbklaapaheaaGreat

/- Spoil, of the program and of the document. -/
namespace Go.Proofs.YtiijbklaapaheaaGreat
open Go.RowKit
set_option maxRecDepth 100000

theorem xorB (u x : Int) (h0 : 0 ≤ u) (h1 : u ≤ 255) (x0 : 0 ≤ x) (x1 : x ≤ 255) : 0 ≤ bits .xor .u8 u x ∧ bits .xor .u8 u x ≤ 255 := by
  rw [u8_xor u x h0 (by omega) x0 (by omega)]
  have : u.toNat ^^^ x.toNat < 2 ^ 8 := Nat.xor_lt_two_pow (by omega) (by omega)
  omega

/-- The bytes with one turned. -/
def turn (zs : List Int) (a : Nat) (x : Int) : List Int := zs.set a (bits .xor .u8 (zs.getD a 0) x)
theorem turn_length (zs : List Int) (a : Nat) (x : Int) : (turn zs a x).length = zs.length := by simp [turn]
theorem turn_byt {zs : List Int} (h : Byt zs) (a : Nat) (x : Int) (x0 : 0 ≤ x) (x1 : x ≤ 255) : Byt (turn zs a x) := by
  intro b hb
  rcases List.mem_or_eq_of_mem_set hb with hb | rfl
  · exact h b hb
  · have := h.get a
    exact xorB _ _ this.1 this.2 x0 x1

def Fl.spoil (F : Fl) (i j a x : Int) : Int × Fl :=
  if F.down = true then (7, F) else if ¬ F.within i j then (1, F) else if ¬ (0 ≤ a ∧ a < 256) then (1, F) else if F.st i.toNat j.toNat = 2 then (0, F.setBs i.toNat j.toNat (strOf (turn (bytesOf (F.bs i.toNat j.toNat)) a.toNat x)))
  else (if F.st i.toNat j.toNat = 1 then 22 else 21, F)

theorem Own8.set {B : Nat} {w : World} {g cap n : Nat} {ys : List Int} (h : Own8 B w (.slice (some ⟨g, 0, none⟩) n cap) ys) (a : Nat) (ha : a < ys.length) (u : Int) : Own8 B (w.setCell ⟨g, a, none⟩ (.int .u8 u)) (.slice (some ⟨g, 0, none⟩) n cap) (ys.set a u) := by
  obtain ⟨g', cap', e, h1, h2, h3, h4⟩ := h
  simp only [Value.slice.injEq, Option.some.injEq, Addr.mk.injEq, and_true] at e
  obtain ⟨rfl, rfl, rfl⟩ := e
  refine ⟨g, cap, by rw [List.length_set], by rw [List.length_set]; exact h1, h2, fun t ht => ?_, fun t ht => ?_⟩
  · rw [List.length_set] at ht
    by_cases c : a = t
    · subst c
      rw [cs_same (h3 a ha)]
      simp [List.getD, ha]
    · rw [cs_other (addr_ne (Or.inr c)), h3 t ht]
      simp [List.getD, c]
  · rw [List.length_set] at ht
    rw [World.frozen?_setCell]; exact h4 t ht

set_option maxHeartbeats 400000 in
theorem spoil_err' {v : Value} {i j a wth er : Int} {w : World} (he : er ≠ 0) (HF : Calls Tryz.prog 47 #[v, .int .i64 i, .int .i64 j] w fun e w' => e = .returned (.tuple #[.pointer none, .int .i64 er]) ∧ w = w') :
    Calls Tryz.prog 27 #[v, .int .i64 i, .int .i64 j, .int .i64 a, .int .u8 wth] w fun e w' => e = .returned (.int .i64 er) ∧ w = w' := by
  have HF := hide HF
  go_enter Tryz.func27, Tryz.ntmps27
  go_wp2_with (first
    | (go_at_call 47; refine (unhide HF).mono ?_; rintro e w' ⟨rfl, rfl⟩))
  go_ret
  exact ⟨rfl, rfl⟩

set_option maxRecDepth 100000 in
set_option maxHeartbeats 1600000 in
theorem spoil_arg {g h cap : Nat} {F : Fl} {w : World} (H : IsFl w g h cap F) (hd : F.down = false) (i j : Nat) (hi : i < F.n) (hj : j < 16) (a x : Int) (ha : ¬ (0 ≤ a ∧ a < 256)) :
    Calls Tryz.prog 27 #[P0 h, .int .i64 i, .int .i64 j, .int .i64 a, .int .u8 x] w fun e w' => e = .returned (.int .i64 1) ∧ w = w' := by
  have HF := hide (find_yes H hd i j hi hj)
  clear H
  have h' : a < 0 ∨ 256 ≤ a := by omega
  clear ha
  rcases h' with h' | h'
  all_goals
    go_enter Tryz.func27, Tryz.ntmps27
    go_wp2_with fail
    refine (unhide HF).mono ?_
    rintro e w1 ⟨rfl, rfl⟩
    go_wp2
    go_ret
    exact ⟨rfl, rfl⟩

set_option maxRecDepth 100000 in
set_option maxHeartbeats 1600000 in
theorem spoil_not {g h cap : Nat} {F : Fl} {w : World} (H : IsFl w g h cap F) (hd : F.down = false) (i j : Nat) (hi : i < F.n) (hj : j < 16) (a : Nat) (x : Int) (ha : a < 256) (hs : F.st i j ≠ 2) :
    Calls Tryz.prog 27 #[P0 h, .int .i64 i, .int .i64 j, .int .i64 a, .int .u8 x] w fun e w' => e = .returned (.int .i64 (if F.st i j = 1 then 22 else 21)) ∧ w = w' := by
  have HF := hide (find_yes H hd i j hi hj)
  have h1 := H.st i j hi hj
  have HM := hide (missing_any g (i * 33 + j * 2) (F.st i j) w h1)
  obtain ⟨er, her⟩ : ∃ er : Int, (if F.st i j = 1 then 22 else 21) = er := ⟨_, rfl⟩
  rw [her] at HM ⊢
  clear H her
  go_enter Tryz.func27, Tryz.ntmps27
  go_wp2_with fail
  refine (unhide HF).mono ?_
  rintro e w1 ⟨rfl, rfl⟩
  go_wp2_with fail
  refine (unhide HM).mono ?_
  rintro e w1 ⟨rfl, rfl⟩
  go_wp2
  go_ret
  exact ⟨rfl, rfl⟩

set_option maxRecDepth 100000 in
set_option maxHeartbeats 1600000 in
theorem spoil_ok {g h cap : Nat} {F : Fl} {w : World} (H : IsFl w g h cap F) (hd : F.down = false) (i j : Nat) (hi : i < F.n) (hj : j < 16) (a : Nat) (x : Int) (ha : a < 256) (x0 : 0 ≤ x) (x1 : x ≤ 255) (hs : F.st i j = 2) (hz : (F.bs i j).size = 256) :
    Calls Tryz.prog 27 #[P0 h, .int .i64 i, .int .i64 j, .int .i64 a, .int .u8 x] w fun e w' => e = .returned (.int .i64 0) ∧ IsFl w' g h cap (F.setBs i j (strOf (turn (bytesOf (F.bs i j)) a x))) ∧ Upd (Two g h) w.heap.size w w' := by
  have HF := hide (find_yes H hd i j hi hj)
  have h1 := H.st i j hi hj; rw [hs] at h1
  have h2 := H.bs i j hi hj
  have hfr := H.frG
  have hgl := H.glt
  have hge := grownCap_ge w (F.bs i j).size 0 5
  have hO := own8_new w (F.bs i j) _ hge (row_size _ _ hge)
  have hbl := bytesOf_length (F.bs i j)
  have hby := bytesOf_byt (F.bs i j)
  have hv := run_bytes_of_string (P := Tryz.prog) w 9 33 5 (F.bs i j) Tryz.underlying9 Tryz.underlying33 Tryz.underlying5
  obtain ⟨w1, hw1⟩ : ∃ w1, w.drew.alloc (.cells (bytesRow (F.bs i j) (grownCap w (F.bs i j).size 0 5)) 5 ((bytesRow (F.bs i j) (grownCap w (F.bs i j).size 0 5)).size, (bytesRow (F.bs i j) (grownCap w (F.bs i j).size 0 5)).size + 1)) = w1 := ⟨_, rfl⟩
  rw [hw1] at hv hO
  have hb1 : Below w.heap.size w w1 := by rw [← hw1]; exact (Below.refl _ _).drew.alloc (Nat.le_refl _) _
  have HI1 := hide (H.below hb1)
  have HB1 := hide hb1
  obtain ⟨cgr, hcgr⟩ : ∃ c, grownCap w (F.bs i j).size 0 5 = c := ⟨_, rfl⟩
  rw [hcgr] at hv hO hge
  rw [hz] at hv hO hbl hge
  have HO := hide hO
  obtain ⟨g', cap', e, hq2, hq3, hc, hf⟩ := id hO
  simp only [Value.slice.injEq, Option.some.injEq, Addr.mk.injEq, and_true] at e
  obtain ⟨rfl, hq1, rfl⟩ := e
  have ca := hc a (by omega)
  have fa := hf a (by omega)
  have q2 := (H.below hb1).bs i j hi hj
  have q3 := (H.below hb1).frG
  have HU1 : Hid (Own8 w.heap.size (w1.setCell ⟨w.heap.size, a, none⟩ (.int .u8 (bits .xor .u8 ((bytesOf (F.bs i j)).getD a 0) x))) (.slice (some ⟨w.heap.size, 0, none⟩) 256 cgr) (turn (bytesOf (F.bs i j)) a x)) := hO.set a (by omega) _
  obtain ⟨u, hu⟩ : ∃ u, (bytesOf (F.bs i j)).getD a 0 = u := ⟨_, rfl⟩
  have hub := hby.get a
  rw [hu] at ca HU1 hub
  have hcv := run_conv_sees (P := Tryz.prog) (w1.setCell ⟨w.heap.size, a, none⟩ (.int .u8 (bits .xor .u8 u x))) 33 9 5 (.slice (some ⟨w.heap.size, 0, none⟩) 256 cgr) (turn (bytesOf (F.bs i j)) a x) Tryz.underlying33 Tryz.underlying5 Tryz.underlying9 (unhide HU1).sees (turn_byt hby a x x0 x1)
  have HFin := hide (((H.below hb1).other w.heap.size a (.int .u8 (bits .xor .u8 u x)) (by omega) (by have := H.hlt; omega)).setBs i j hi hj (strOf (turn (bytesOf (F.bs i j)) a x)))
  obtain ⟨sz, hsz⟩ : ∃ sz, strOf (turn (bytesOf (F.bs i j)) a x) = sz := ⟨_, rfl⟩
  rw [hsz] at hcv HFin ⊢
  obtain ⟨hub0, hub1⟩ := hub
  have hgne : w.heap.size ≠ g := by omega
  clear H hw1 hcgr hO hc hf hb1 hu hsz hbl hby hs hz hq1 hq2 hq3
  go_enter Tryz.func27, Tryz.ntmps27
  go_wp2_with fail
  refine (unhide HF).mono ?_
  rintro e w2 ⟨rfl, rfl⟩
  go_wp2
  go_ret
  exact ⟨rfl, unhide HFin, ((Upd.of (unhide HB1)).setCell (Or.inr (Nat.le_refl _)) _).setCell (Or.inl (Or.inl rfl)) _⟩

theorem spoil_all {g h cap : Nat} {F : Fl} {w : World} (H : IsFl w g h cap F) (hok : ∀ i j, i < F.n → j < 16 → F.st i j = 2 → (F.bs i j).size = 256) (i j a x : Int) (x0 : 0 ≤ x) (x1 : x ≤ 255) :
    Calls Tryz.prog 27 #[P0 h, .int .i64 i, .int .i64 j, .int .i64 a, .int .u8 x] w fun e w' => e = .returned (.int .i64 (F.spoil i j a x).1) ∧ IsFl w' g h cap (F.spoil i j a x).2 ∧ Upd (Two g h) w.heap.size w w' := by
  unfold Fl.spoil
  have same : ∀ er : Int, (Calls Tryz.prog 27 #[P0 h, .int .i64 i, .int .i64 j, .int .i64 a, .int .u8 x] w fun e w' => e = .returned (.int .i64 er) ∧ w = w') → Calls Tryz.prog 27 #[P0 h, .int .i64 i, .int .i64 j, .int .i64 a, .int .u8 x] w fun e w' => e = .returned (.int .i64 er) ∧ IsFl w' g h cap F ∧ Upd (Two g h) w.heap.size w w' := fun er h => h.mono (by
    rintro e w' ⟨rfl, rfl⟩
    exact ⟨rfl, H, Upd.refl _ _ _⟩)
  by_cases hd : F.down = true
  · rw [if_pos hd]; exact same 7 (spoil_err' (by decide) (find_down H hd i j))
  rw [if_neg hd]
  have hd' : F.down = false := by simpa using hd
  by_cases hw : F.within i j
  · rw [if_neg (not_not_intro hw)]
    obtain ⟨h1, h2, h3, h4⟩ := hw
    obtain ⟨i, rfl⟩ := nat_of h1
    obtain ⟨j, rfl⟩ := nat_of h3
    have hi : i < F.n := by omega
    have hj : j < 16 := by omega
    simp only [Int.toNat_natCast]
    by_cases ha : 0 ≤ a ∧ a < 256
    · rw [if_neg (not_not_intro ha)]
      obtain ⟨a, rfl⟩ := nat_of ha.1
      rw [Int.toNat_natCast]
      by_cases hs : F.st i j = 2
      · rw [if_pos hs]
        exact spoil_ok H hd' i j hi hj a x (by omega) x0 x1 hs (hok i j hi hj hs)
      · rw [if_neg hs]
        exact same _ (spoil_not H hd' i j hi hj a x (by omega) hs)
    · rw [if_pos ha]; exact same 1 (spoil_arg H hd' i j hi hj a x ha)
  · rw [if_pos hw]; exact same 1 (spoil_err' (by decide) (find_arg H hd' i j hw))

variable {w : World} {S : Nat → Prop} {hr gp gw cp cw : Nat} {pb cb : Nat → Nat} {bv : Nat → Nat → Value} {F : Fl} {kp : Int}

set_option maxHeartbeats 800000 in
theorem rspoil_err (H : IsRf w S hr gp gw cp cw pb cb bv F kp) (i j a x er : Int) (he : F.look i j = er) (h0 : er ≠ 0) :
    Calls Tryz.prog 28 #[P0 hr, .int .i64 i, .int .i64 j, .int .i64 a, .int .u8 x] w fun e w' => e = .returned (.int .i64 er) ∧ Below w.heap.size w w' := by
  have HL := hide (look_any H i j)
  rw [he] at HL
  clear H he
  go_enter Tryz.func28, Tryz.ntmps28
  go_wp2_with fail
  refine (unhide HL).mono ?_
  rintro e w1 ⟨rfl, rfl⟩
  go_wp2
  go_ret
  exact ⟨rfl, Below.refl _ _⟩

set_option maxRecDepth 100000 in
set_option maxHeartbeats 800000 in
theorem rspoil_arg (H : IsRf w S hr gp gw cp cw pb cb bv F kp) (i j a x : Int) (he : F.look i j = 0) (ha : ¬ (0 ≤ a ∧ a < 256)) :
    Calls Tryz.prog 28 #[P0 hr, .int .i64 i, .int .i64 j, .int .i64 a, .int .u8 x] w fun e w' => e = .returned (.int .i64 1) ∧ Below w.heap.size w w' := by
  have HL := hide (look_any H i j)
  rw [he] at HL
  clear H he
  have h' : a < 0 ∨ 256 ≤ a := by omega
  clear ha
  rcases h' with h' | h'
  all_goals
    go_enter Tryz.func28, Tryz.ntmps28
    go_wp2_with fail
    refine (unhide HL).mono ?_
    rintro e w1 ⟨rfl, rfl⟩
    go_wp2
    go_ret
    exact ⟨rfl, Below.refl _ _⟩

set_option maxRecDepth 100000 in
set_option maxHeartbeats 1600000 in
theorem rspoil_not (H : IsRf w S hr gp gw cp cw pb cb bv F kp) (i j a : Nat) (x : Int) (hi : i < F.n) (hj : j < 16) (he : F.look i j = 0) (ha : a < 256) (hs : F.st i j ≠ 2) :
    Calls Tryz.prog 28 #[P0 hr, .int .i64 i, .int .i64 j, .int .i64 a, .int .u8 x] w fun e w' => e = .returned (.int .i64 (if F.st i j = 1 then 22 else 21)) ∧ Below w.heap.size w w' := by
  have HL := hide (look_any H i j)
  rw [he] at HL
  have HA := hide (at_any H i j hi hj)
  have eA : F.atE i j = if F.st i j = 1 then 22 else 21 := by
    unfold Fl.atE
    rcases H.stOk i j hi hj with h | h | h
    · rw [h]; rfl
    · rw [h]; rfl
    · exact absurd h hs
  have e0 : F.atE i j ≠ 0 := by rw [eA]; split <;> decide
  rw [← eA]
  obtain ⟨er, her⟩ : ∃ er, F.atE i j = er := ⟨_, rfl⟩
  rw [her] at HA e0 ⊢
  clear H he her eA hs
  go_enter Tryz.func28, Tryz.ntmps28
  go_wp2_with fail
  refine (unhide HL).mono ?_
  rintro e w1 ⟨rfl, rfl⟩
  go_wp2_with fail
  refine (unhide HA).mono ?_
  rintro e w1 ⟨rfl, hb1⟩
  have HB := hide hb1
  clear hb1
  go_wp2
  go_ret
  exact ⟨rfl, unhide HB⟩

end Go.Proofs.YtiijbklaapaheaaGreat
