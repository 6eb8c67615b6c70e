/- The document's Erase. -/
import Derived.Test.YteehhbgjjamjiaaR6
namespace Go.Proofs.Yteehhbgjjamjiaa
open Go.RowKit

variable {w : World} {S : Nat → Prop} {hr gp gw cp cw : Nat} {pb cb : Nat → Nat} {bv : Nat → Nat → Value} {F : Fl} {kp : Int}

theorem PgAt.congr {w : World} {b : Nat} {st st' : Nat → Int} {bv bv' : Nat → Value} (h : PgAt w b st bv) (h1 : ∀ j, j < 16 → st j = st' j) (h2 : ∀ j, j < 16 → bv j = bv' j) : PgAt w b st' bv' := by
  intro j hj
  rw [← h1 j hj, ← h2 j hj]
  exact h j hj

theorem IsRf.setWear (H : IsRf w S hr gp gw cp cw pb cb bv F kp) (i : Nat) (hi : i < F.n) (x : Int) : IsRf (w.setCell ⟨gw, i, none⟩ (.int .i64 x)) S hr gp gw cp cw pb cb bv (F.setWear i x) kp := by
  obtain ⟨l1, l2, l3, l4⟩ := H.rlt
  have hu : Upd (fun k => k = gw) w.heap.size w (w.setCell ⟨gw, i, none⟩ (.int .i64 x)) := (Upd.refl (fun k => k = gw) w.heap.size w).setCell (p := ⟨gw, i, none⟩) (Or.inl rfl) _
  have cc : ∀ b o, b < w.heap.size → b ≠ gw → (w.setCell ⟨gw, i, none⟩ (.int .i64 x)).cell? ⟨b, o, none⟩ = w.cell? ⟨b, o, none⟩ := fun b o hb hne => hu.cell (p := ⟨b, o, none⟩) hb hne
  refine ⟨H.d1, H.d2, H.d3, H.s1, H.s2, H.s3, H.le, H.pos, H.fitp, H.fitw, ?_, ?_, ?_, ?_, ?_, fun o => by rw [World.frozen?_setCell]; exact H.frR o, fun o => by rw [World.frozen?_setCell]; exact H.frP o, fun o => by rw [World.frozen?_setCell]; exact H.frW o,
    fun k hk => ?_, fun k hk => ?_, H.room, H.away, fun k hk j hj => ?_, H.shape, fun k j hk hj h2 => (H.bytes k j hk hj h2).upd hu (Nat.le_refl _) (fun k _ hnk c => hnk (Or.inr (Or.inr (Or.inl c)))), H.keep, H.cnt0, H.cnt1, H.full, H.stOk⟩
  · rw [cc _ _ l1 H.d2]; exact H.c0
  · rw [cc _ _ l1 H.d2]; exact H.c1
  · rw [cc _ _ l1 H.d2]; exact H.c2
  · rw [cc _ _ l1 H.d2]; exact H.c3
  · rw [cc _ _ l1 H.d2]; exact H.c4
  · show _ = some (Value.int .i64 (if k = i then x else F.wear k))
    by_cases c : k = i
    · subst c; rw [if_pos rfl]; exact cs_same (H.wear k hk)
    · rw [if_neg c, cs_other (addr_ne (Or.inr (fun e => c e.symm)))]; exact H.wear k hk
  · rw [cc _ _ l2 H.d3]; exact H.page k hk
  · have hne : pb k ≠ gw := fun e => H.away k hk (Or.inr (Or.inr (Or.inl e)))
    rw [cc _ _ (l4 k hk) hne, cc _ _ (l4 k hk) hne, cc _ _ (l4 k hk) hne]
    exact H.cells k hk j hj

/-- New pages in place, and one more wear. -/
theorem IsRf.anewIn (H : IsRf w S hr gp gw cp cw pb cb bv F kp) (hS : ∀ k, S k → k < w.heap.size) {w3 : World} (hu : Upd (fun _ => False) w.heap.size w w3) (i : Nat) (hi : i < F.n) (pl cpl : Nat) (hroom : 16 ≤ cpl) (hpl : w.heap.size ≤ pl) (s : Int) (hs : s = 0 ∨ s = 1) (hPg : PgAt w3 pl (fun _ => s) (fun _ => .slice none 0 0)) :
    IsRfE ((w3.setCell ⟨gp, i, none⟩ (.slice (some ⟨pl, 0, none⟩) 16 cpl)).setCell ⟨gw, i, none⟩ (.int .i64 (wrap64 (F.wear i + 1)))) S hr gp gw cp cw (F.anew i s ⟨#[]⟩) ∧
    Upd (OnlyR hr gp gw) w.heap.size w ((w3.setCell ⟨gp, i, none⟩ (.slice (some ⟨pl, 0, none⟩) 16 cpl)).setCell ⟨gw, i, none⟩ (.int .i64 (wrap64 (F.wear i + 1)))) := by
  obtain ⟨l1, l2, l3, l4⟩ := H.rlt
  have hu1 : Upd (fun k => k = gp) w.heap.size w (w3.setCell ⟨gp, i, none⟩ (.slice (some ⟨pl, 0, none⟩) 16 cpl)) := (hu.mono (S' := fun k => k = gp) (Nat.le_refl _) (fun _ _ c => c.elim)).setCell (p := ⟨gp, i, none⟩) (Or.inl rfl) _
  have gpc : ∀ o, w3.cell? ⟨gp, o, none⟩ = w.cell? ⟨gp, o, none⟩ := fun o => hu.cell (p := ⟨gp, o, none⟩) l2 id
  have gpf : ∀ o, w3.frozen? ⟨gp, o, none⟩ = false := fun o => (hu.frozen (p := ⟨gp, o, none⟩) l2 id).trans (H.frP o)
  have hne : pl ≠ gp := by omega
  have estk : ∀ k, k < 16 → (F.fill i 16 s ⟨#[]⟩).st i k = s := fun k hk => by show (if i = i ∧ k < 16 then _ else _) = _; rw [if_pos ⟨rfl, hk⟩]
  have hI := H.install hu1 (fun o => by rw [World.frozen?_setCell]; exact gpf o) hS i hi pl cpl hroom hpl (cs_same (u := .slice (some ⟨pb i, 0, none⟩) 16 (cb i)) (by rw [gpc]; exact H.page i hi)) (fun k hk => by rw [cs_other (addr_ne (Or.inr hk.symm)), gpc]) (F.fill i 16 s ⟨#[]⟩) rfl rfl rfl rfl rfl
    (fun k hk => by funext k'; show (if k = i ∧ k' < 16 then _ else _) = _; rw [if_neg (fun c => hk c.1)]) (fun k hk => by funext k'; show (if k = i ∧ k' < 16 then _ else _) = _; rw [if_neg (fun c => hk c.1)]) (fun _ => .slice none 0 0)
    ((hPg.keep (Below.heap_setCell _ _ _ _ hne)).congr (fun k hk => (estk k hk).symm) (fun _ _ => rfl)) (fun _ _ => ⟨_, _, _, rfl⟩) (fun k hk h2 => by rw [estk k hk] at h2; omega) (fun k hk h2 => by rw [estk k hk] at h2; omega) (fun k hk => by rw [estk k hk]; omega)
  exact ⟨⟨_, _, _, _, hI.setWear i hi (wrap64 (F.wear i + 1))⟩, (onlyR_gp (hr := hr) (gw := gw) hu1).setCell (p := ⟨gw, i, none⟩) (Or.inl (Or.inr (Or.inr rfl))) _⟩

theorem torn_step (k j : Nat) : (if j = k then (1 : Int) else if j < k then 1 else 0) = if j < k + 1 then 1 else 0 := by
  by_cases c : j = k
  · rw [if_pos c, if_pos (by omega)]
  · rw [if_neg c]
    by_cases d : j < k
    · rw [if_pos d, if_pos (by omega)]
    · rw [if_neg d, if_neg (by omega)]

theorem made_at3 (t : Nat) (ht : t < 16 * 3) : (madeCells #[.bool false, .bool false, .slice none 0 0] (16 * 3)).toList[t]? = some ((#[.bool false, .bool false, .slice none 0 0] : Array Value)[t % 3]!) := by
  unfold madeCells
  rw [Array.getElem?_toList, Array.getElem?_map, Array.getElem?_range, if_pos ht]
  rfl

theorem made_pages {w2 : World} {B pl : Nat} (ho : w2.ownsRow B 86 3 (.slice (some ⟨pl, 0, none⟩) 16 16) 16 (madeCells #[.bool false, .bool false, .slice none 0 0] (16 * 3)).toList) :
    B ≤ pl ∧ PgAt w2 pl (fun _ => 0) (fun _ => .slice none 0 0) ∧ ∀ o, w2.frozen? ⟨pl, o, none⟩ = false := by
  have ho' := ho
  rcases ho'.2 with ⟨h, _⟩ | ⟨pl', cpl, cur, h, hB, hh, hcap, _⟩
  · cases h
  simp only [Value.slice.injEq, Option.some.injEq, Addr.mk.injEq, and_true, true_and] at h
  obtain ⟨rfl, rfl⟩ := h
  have cell : ∀ t v, (madeCells #[.bool false, .bool false, .slice none 0 0] (16 * 3)).toList[t]? = some v → w2.cell? ⟨pl, t, none⟩ = some v := fun t v h => by
    have := ho.cells (g := pl) rfl t v h
    have hadd : (⟨pl, 0, none⟩ : Addr).add t = ⟨pl, t, none⟩ := by unfold Addr.add; split <;> simp_all
    rw [hadd] at this
    exact this
  refine ⟨hB, fun j hj => ⟨?_, ?_, ?_⟩, fun o => ho.frozenAt o⟩
  · refine cell _ _ ((made_at3 _ (by omega)).trans ?_)
    rw [show j * 3 % 3 = 0 by omega]; rfl
  · refine cell _ _ ((made_at3 _ (by omega)).trans ?_)
    rw [show (j * 3 + 1) % 3 = 1 by omega]; rfl
  · refine cell _ _ ((made_at3 _ (by omega)).trans ?_)
    rw [show (j * 3 + 2) % 3 = 2 by omega]; rfl

set_option maxHeartbeats 800000 in
theorem rerase_err (H : IsRf w S hr gp gw cp cw pb cb bv F kp) (i er : Int) (he : F.look i 0 = er) (h0 : er ≠ 0) :
    Calls Try.prog 36 #[P0 hr, .int .i64 i] w fun e w' => e = .returned (.int .i64 er) ∧ w = w' := by
  have HL := hide (look_any H i 0)
  rw [he] at HL
  clear H he
  go_enter Try.func36, Try.ntmps36
  go_wp2_with fail
  refine (unhide HL).mono ?_
  rintro e w1 ⟨rfl, rfl⟩
  go_wp2
  go_ret
  exact ⟨rfl, rfl⟩

set_option maxHeartbeats 1600000 in
theorem rerase_none (H : IsRf w S hr gp gw cp cw pb cb bv F kp) (i : Nat) (hlk : F.look i 0 = 0) (F1 : Fl) (HBn : Calls Try.prog 57 #[P0 hr] w fun e w' => e = .returned (.bool true) ∧ IsRf w' S hr gp gw cp cw pb cb bv F1 kp ∧ Upd (OnlyR hr gp gw) w.heap.size w w') (hk : kp % 3 = 0) :
    Calls Try.prog 36 #[P0 hr, .int .i64 i] w fun e w' => e = .returned (.int .i64 7) ∧ IsRfE w' S hr gp gw cp cw F1 ∧ Upd (OnlyR hr gp gw) w.heap.size w w' := by
  have HL := hide (look_any H i 0)
  rw [hlk] at HL
  have HB := hide HBn
  have HK := hide hk
  clear H HBn hlk hk
  go_enter Try.func36, Try.ntmps36
  go_wp2_with fail
  refine (unhide HL).mono ?_
  rintro e w1 ⟨rfl, rfl⟩
  go_wp2_with fail
  refine (unhide HB).mono ?_
  rintro e w1 ⟨rfl, hI1, hU1⟩
  have HI1 := hide hI1
  have HU1 := hide hU1
  have HH := hide (how_any kp w1)
  rw [unhide HK] at HH
  have g4 := hI1.c3
  clear hI1 hU1
  go_wp2_with fail
  refine (unhide HH).mono ?_
  rintro e w2 ⟨rfl, rfl⟩
  go_wp2
  go_ret
  exact ⟨rfl, ⟨_, _, _, _, unhide HI1⟩, unhide HU1⟩

set_option maxRecDepth 100000 in
set_option maxHeartbeats 3200000 in
theorem rerase_zero (H : IsRf w S hr gp gw cp cw pb cb bv F kp) (hS : ∀ k, S k → k < w.heap.size) (i : Nat) (hlk : F.look i 0 = 0) (went : Bool) (F1 : Fl) (HBn : Calls Try.prog 57 #[P0 hr] w fun e w' => e = .returned (.bool went) ∧ IsRf w' S hr gp gw cp cw pb cb bv F1 kp ∧ Upd (OnlyR hr gp gw) w.heap.size w w') (hi1 : i < F1.n) (hmode : went = false ∨ kp % 3 = 2) :
    Calls Try.prog 36 #[P0 hr, .int .i64 i] w fun e w' => e = .returned (.int .i64 (if went then 7 else 0)) ∧ IsRfE w' S hr gp gw cp cw (F1.anew i 0 ⟨#[]⟩) ∧ Upd (OnlyR hr gp gw) w.heap.size w w' := by
  obtain ⟨i0, hi0, hz0, hz1, hz2⟩ := info_parts Try.info86
  have HL := hide (look_any H i 0)
  rw [hlk] at HL
  have HB := hide HBn
  clear H HBn hlk
  cases went with
  | false =>
    go_enter Try.func36, Try.ntmps36
    go_wp2_with fail
    refine (unhide HL).mono ?_
    rintro e w1 ⟨rfl, rfl⟩
    go_wp2_with fail
    refine (unhide HB).mono ?_
    rintro e w1 ⟨rfl, hI1, hU1⟩
    have HI1 := hide hI1
    have HU1 := hide hU1
    have hl1 := hU1.size
    have d3 := hI1.c3
    have HH1 := hide (how_any kp w1)
    clear hI1 hU1 HL HB
    go_wp2_with (at_make; refine wpList_make_full _ rfl _ _ 87 rfl w1.heap.size 86 i0 (.agg #[.bool false, .bool false, .slice none 0 0]) 3 Try.underlying87 hi0 hz0 hz1 _ _ _ _ 16 rfl rfl rfl rfl ?b2 ?b3 (Nat.le_refl _) ?_)
    case b2 => rw [hz2]; omega
    case b3 => unfold maxLen; omega
    intro w2 ho hg
    obtain ⟨hpl, hPg, hfr⟩ := made_pages ho
    have hb2 : Below w1.heap.size w1 w2 := (Below.refl _ _).grown hg (Nat.le_refl _) (fun k h => by cases h)
    have HI2 := hide ((unhide HI1).below hb2)
    have HB2 := hide hb2
    have hplt : w1.heap.size < w2.heap.size := World.block_lt_of_cell? w2 _ (hPg 0 (by omega)).1
    have HPg := hide hPg
    have f0 := (unhide HI2).c0; have f1 := (unhide HI2).page i hi1; have f2 := (unhide HI2).c1; have f3 := (unhide HI2).c3; have f4 := (unhide HI2).frP; have f5 := (unhide HI2).frW; have f6 := (unhide HI2).wear i hi1; have f7 := (unhide HI2).fitp; have f8 := (unhide HI2).fitw
    obtain ⟨r1, r2, r3, _⟩ := (unhide HI1).rlt
    have dd1 := (unhide HI1).d1; have dd2 := (unhide HI1).d2; have dd3 := (unhide HI1).d3
    have hne : w1.heap.size ≠ gp := by omega
    have hne2 : w1.heap.size ≠ hr := by omega
    have hne3 : w1.heap.size ≠ gw := by omega
    clear ho hg hb2 hPg d3
    have FN := hide ((unhide HI1).anewIn (fun k hk => by have := hS k hk; omega) (Upd.of (unhide HB2)) i hi1 w1.heap.size 16 (Nat.le_refl _) (Nat.le_refl _) 0 (Or.inl rfl) (unhide HPg))
    go_wp2
    refine wp_loop_rounds 1 ?_
    rw [rounds_succ]
    go_wp2
    go_ret
    exact ⟨rfl, (unhide FN).1, (unhide HU1).trans ((unhide FN).2.less hl1)⟩
  | true =>
    go_enter Try.func36, Try.ntmps36
    go_wp2_with fail
    refine (unhide HL).mono ?_
    rintro e w1 ⟨rfl, rfl⟩
    go_wp2_with fail
    refine (unhide HB).mono ?_
    rintro e w1 ⟨rfl, hI1, hU1⟩
    have HI1 := hide hI1
    have HU1 := hide hU1
    have hl1 := hU1.size
    have d3 := hI1.c3
    have HH1 := hide (how_any kp w1)
    have hk2 : kp % 3 = 2 := by rcases hmode with h | h; cases h; exact h
    rw [hk2] at HH1
    clear hI1 hU1 HL HB
    go_wp2_with fail
    refine (unhide HH1).mono ?_
    rintro e wq ⟨rfl, rfl⟩
    go_wp2_with (at_make; refine wpList_make_full _ rfl _ _ 87 rfl w1.heap.size 86 i0 (.agg #[.bool false, .bool false, .slice none 0 0]) 3 Try.underlying87 hi0 hz0 hz1 _ _ _ _ 16 rfl rfl rfl rfl ?b2 ?b3 (Nat.le_refl _) ?_)
    case b2 => rw [hz2]; omega
    case b3 => unfold maxLen; omega
    intro w2 ho hg
    obtain ⟨hpl, hPg, hfr⟩ := made_pages ho
    have hb2 : Below w1.heap.size w1 w2 := (Below.refl _ _).grown hg (Nat.le_refl _) (fun k h => by cases h)
    have HI2 := hide ((unhide HI1).below hb2)
    have HB2 := hide hb2
    have hplt : w1.heap.size < w2.heap.size := World.block_lt_of_cell? w2 _ (hPg 0 (by omega)).1
    have HPg := hide hPg
    have f0 := (unhide HI2).c0; have f1 := (unhide HI2).page i hi1; have f2 := (unhide HI2).c1; have f3 := (unhide HI2).c3; have f4 := (unhide HI2).frP; have f5 := (unhide HI2).frW; have f6 := (unhide HI2).wear i hi1; have f7 := (unhide HI2).fitp; have f8 := (unhide HI2).fitw
    obtain ⟨r1, r2, r3, _⟩ := (unhide HI1).rlt
    have dd1 := (unhide HI1).d1; have dd2 := (unhide HI1).d2; have dd3 := (unhide HI1).d3
    have hne : w1.heap.size ≠ gp := by omega
    have hne2 : w1.heap.size ≠ hr := by omega
    have hne3 : w1.heap.size ≠ gw := by omega
    clear ho hg hb2 hPg d3
    have FN := hide ((unhide HI1).anewIn (fun k hk => by have := hS k hk; omega) (Upd.of (unhide HB2)) i hi1 w1.heap.size 16 (Nat.le_refl _) (Nat.le_refl _) 0 (Or.inl rfl) (unhide HPg))
    have HH2 := hide (how_any kp w2)
    rw [hk2] at HH2
    clear hk2
    go_wp2
    refine wp_loop_rounds 1 ?_
    rw [rounds_succ]
    go_wp2_with fail
    refine (unhide HH2).mono ?_
    rintro e wq ⟨rfl, rfl⟩
    go_wp2
    go_ret
    exact ⟨rfl, (unhide FN).1, (unhide HU1).trans ((unhide FN).2.less hl1)⟩

set_option maxRecDepth 100000 in
set_option maxHeartbeats 3200000 in
theorem rerase_torn (H : IsRf w S hr gp gw cp cw pb cb bv F kp) (hS : ∀ k, S k → k < w.heap.size) (i : Nat) (hlk : F.look i 0 = 0) (F1 : Fl) (HBn : Calls Try.prog 57 #[P0 hr] w fun e w' => e = .returned (.bool true) ∧ IsRf w' S hr gp gw cp cw pb cb bv F1 kp ∧ Upd (OnlyR hr gp gw) w.heap.size w w') (hi1 : i < F1.n) (hk2 : kp % 3 = 1) :
    Calls Try.prog 36 #[P0 hr, .int .i64 i] w fun e w' => e = .returned (.int .i64 7) ∧ IsRfE w' S hr gp gw cp cw (F1.anew i 1 ⟨#[]⟩) ∧ Upd (OnlyR hr gp gw) w.heap.size w w' := by
  obtain ⟨i0, hi0, hz0, hz1, hz2⟩ := info_parts Try.info86
  have HL := hide (look_any H i 0)
  rw [hlk] at HL
  have HB := hide HBn
  clear H HBn hlk
  go_enter Try.func36, Try.ntmps36
  go_wp2_with fail
  refine (unhide HL).mono ?_
  rintro e w1 ⟨rfl, rfl⟩
  go_wp2_with fail
  refine (unhide HB).mono ?_
  rintro e w1 ⟨rfl, hI1, hU1⟩
  have HI1 := hide hI1
  have HU1 := hide hU1
  have hl1 := hU1.size
  have d3 := hI1.c3
  have HH1 := hide (how_any kp w1)
  rw [hk2] at HH1
  clear hI1 hU1 HL HB
  go_wp2_with fail
  refine (unhide HH1).mono ?_
  rintro e wq ⟨rfl, rfl⟩
  go_wp2_with (at_make; refine wpList_make_full _ rfl _ _ 87 rfl w1.heap.size 86 i0 (.agg #[.bool false, .bool false, .slice none 0 0]) 3 Try.underlying87 hi0 hz0 hz1 _ _ _ _ 16 rfl rfl rfl rfl ?b2 ?b3 (Nat.le_refl _) ?_)
  case b2 => rw [hz2]; omega
  case b3 => unfold maxLen; omega
  intro w2 ho hg
  obtain ⟨hpl, hPg, hfr⟩ := made_pages ho
  have hfr0 := hfr
  have hb2 : Below w1.heap.size w1 w2 := (Below.refl _ _).grown hg (Nat.le_refl _) (fun k h => by cases h)
  have HI2 := hide ((unhide HI1).below hb2)
  have HB2 := hide hb2
  have hplt : w1.heap.size < w2.heap.size := World.block_lt_of_cell? w2 _ (hPg 0 (by omega)).1
  have HPg := hide hPg
  have f0 := (unhide HI2).c0; have f1 := (unhide HI2).page i hi1; have f2 := (unhide HI2).c1; have f3 := (unhide HI2).c3; have f4 := (unhide HI2).frP; have f5 := (unhide HI2).frW; have f6 := (unhide HI2).wear i hi1; have f7 := (unhide HI2).fitp; have f8 := (unhide HI2).fitw
  obtain ⟨r1, r2, r3, _⟩ := (unhide HI1).rlt
  have dd1 := (unhide HI1).d1; have dd2 := (unhide HI1).d2; have dd3 := (unhide HI1).d3
  have hne : w1.heap.size ≠ gp := by omega
  have hne2 : w1.heap.size ≠ hr := by omega
  have hne3 : w1.heap.size ≠ gw := by omega
  clear ho hg hb2 hPg d3
  have HK2 := hide hk2
  clear hk2 f0 f1 f2 f3 f4 f5 f6 hfr
  have HFR := hide hfr0
  clear hfr0
  go_wp2
  go_loopw [8] (fun c wr => ∃ k : Nat, k ≤ 16 ∧ c = .int .i64 k ∧ PgAt wr w1.heap.size (fun j => if j < k then 1 else 0) (fun _ => .slice none 0 0) ∧ Upd (fun x => x = w1.heap.size) w2.heap.size w2 wr ∧ ∀ o, wr.frozen? ⟨w1.heap.size, o, none⟩ = false) (fun c _ => 16 - (intOf c).toNat)
  case atStart => exact ⟨0, by omega, rfl, (unhide HPg).congr (fun j _ => by simp) (fun _ _ => rfl), Upd.refl _ _ _, unhide HFR⟩
  case round =>
    obtain ⟨k, hk, rfl, hP, hU, hF⟩ := hrel
    have hIr : IsRf wr S hr gp gw cp cw pb cb bv F1 kp := by
      have := (unhide HI1).upd (S' := fun x => x = w1.heap.size) (N := w1.heap.size) (((Upd.of (unhide HB2))).trans (hU.less (by omega))) (Nat.le_refl _) (fun k hk c => by omega)
      exact this
    have g0 := hIr.c0; have g1 := hIr.page i hi1; have g2 := hIr.c1; have g3 := hIr.c3; have g4 := hIr.frP; have g5 := hIr.frW; have g6 := hIr.wear i hi1
    have HH2 := hide (how_any kp wr)
    rw [unhide HK2] at HH2
    by_cases hlt : k < 16
    · obtain ⟨p0, p1, p2⟩ := hP k hlt
      have hkk : ¬ k < k := by omega
      simp only [if_neg hkk] at p0 p1
      simp at p0 p1
      have HP2 := hide ((hP.set k hlt 1 (.slice none 0 0)).congr (st' := fun j => if j < k + 1 then 1 else 0) (bv' := fun _ => .slice none 0 0) (fun j _ => torn_step k j) (fun j _ => by split <;> rfl))
      have HU := hide hU
      have HF := hide hF
      have hF0 := hF
      clear hP hU hF hIr g1 g2 g4 g5 g6
      go_wp2_with fail
      refine (unhide HH2).mono ?_
      rintro e wq ⟨rfl, rfl⟩
      go_wp2
      go_roundw
      case rel => exact ⟨k + 1, by omega, by go_num, unhide HP2, (((unhide HU).setCell (Or.inl rfl) _).setCell (Or.inl rfl) _).setCell (Or.inl rfl) _, fun o => by simp only [World.frozen?_setCell]; exact unhide HF o⟩
      case measure => simp [intOf]; omega
    · obtain rfl : k = 16 := by omega
      have hPP : PgAt wr w1.heap.size (fun _ => 1) (fun _ => .slice none 0 0) := hP.congr (fun j hj => by rw [if_pos hj]) (fun _ _ => rfl)
      have hu3 : Upd (fun _ => False) w1.heap.size w1 wr := (Upd.of (unhide HB2)).trans (hU.mono (by omega) (fun x hx c => by omega))
      have FN := hide ((unhide HI1).anewIn (fun k hk => by have := hS k hk; omega) hu3 i hi1 w1.heap.size 16 (Nat.le_refl _) (Nat.le_refl _) 1 (Or.inr rfl) hPP)
      clear hPP hu3 hP hU hF hIr
      go_wp2
      go_ret
      exact ⟨rfl, (unhide FN).1, (unhide HU1).trans ((unhide FN).2.less hl1)⟩

theorem rerase_all (H : IsRf w S hr gp gw cp cw pb cb bv F kp) (hS : ∀ k, S k → k < w.heap.size) (i : Int) :
    Calls Try.prog 36 #[P0 hr, .int .i64 i] w fun e w' => e = .returned (.int .i64 (F.erase i).1) ∧ IsRfE w' S hr gp gw cp cw (F.erase i).2 ∧ Upd (OnlyR hr gp gw) w.heap.size w w' := by
  unfold Fl.erase
  have same : ∀ er : Int, (Calls Try.prog 36 #[P0 hr, .int .i64 i] w fun e w' => e = .returned (.int .i64 er) ∧ w = w') → Calls Try.prog 36 #[P0 hr, .int .i64 i] w fun e w' => e = .returned (.int .i64 er) ∧ IsRfE w' S hr gp gw cp cw F ∧ Upd (OnlyR hr gp gw) w.heap.size w w' := fun er h => h.mono (by
    rintro e w' ⟨rfl, rfl⟩
    exact ⟨rfl, ⟨pb, cb, bv, kp, H⟩, Upd.refl _ _ _⟩)
  by_cases hd : F.down = true
  · rw [if_pos hd]
    exact same 7 (rerase_err H i 7 (by unfold Fl.look; rw [if_pos hd]) (by decide))
  rw [if_neg hd]
  by_cases hw : F.within i 0
  · rw [if_neg (not_not_intro hw)]
    have hlk : F.look i 0 = 0 := by unfold Fl.look; rw [if_neg hd, if_pos hw]
    obtain ⟨h1, h2, h3, h4⟩ := hw
    obtain ⟨i, rfl⟩ := nat_of h1
    have hi : i < F.n := by omega
    simp only [Int.toNat_natCast]
    have hn := (burntR_pg F).1
    have hb := rburn_any H
    by_cases c1 : F.cnt = 1
    · have hdt : decide (F.cnt = 1) = true := by simpa using c1
      rw [hdt] at hb
      have e1 : F.code = 7 := by unfold Fl.code; rw [if_pos c1]
      have eR : F.burntR = { F with cnt := 0, down := true } := by unfold Fl.burntR; rw [if_neg (by omega), if_pos c1]
      have eB : F.burnt = { F with cnt := 0 } := by rw [burnt_of F (by omega), c1]; rfl
      have hk := H.keep (by omega)
      rw [eR] at hb hn
      by_cases k2 : F.keep = 2
      · have e2 : F.changed (anewA i) 0 ⟨#[]⟩ = { ({ F with cnt := 0, down := true } : Fl).anew i 0 ⟨#[]⟩ with keep := 0 } := by unfold Fl.changed; rw [if_pos c1, if_pos k2, eB]; rfl
        rw [e1, e2]
        refine (rerase_zero H hS i hlk true _ hb (by rw [hn]; exact hi) (Or.inr (by omega))).mono ?_
        rintro e w' ⟨rfl, a, b⟩
        exact ⟨rfl, a.fallKeep rfl, b⟩
      · by_cases k1 : F.keep = 1
        · have e2 : F.changed (anewA i) 0 ⟨#[]⟩ = { ({ F with cnt := 0, down := true } : Fl).anew i 1 ⟨#[]⟩ with keep := 0 } := by unfold Fl.changed; rw [if_pos c1, if_neg k2, if_pos k1, eB]; rfl
          rw [e1, e2]
          refine (rerase_torn H hS i hlk _ hb (by rw [hn]; exact hi) (by omega)).mono ?_
          rintro e w' ⟨rfl, a, b⟩
          exact ⟨rfl, a.fallKeep rfl, b⟩
        · have e2 : F.changed (anewA i) 0 ⟨#[]⟩ = { ({ F with cnt := 0, down := true } : Fl) with keep := 0 } := by unfold Fl.changed; rw [if_pos c1, if_neg k2, if_neg k1, eB]; rfl
          rw [e1, e2]
          refine (rerase_none H i hlk _ hb (by omega)).mono ?_
          rintro e w' ⟨rfl, a, b⟩
          exact ⟨rfl, a.fallKeep rfl, b⟩
    · have hdt : decide (F.cnt = 1) = false := by simpa using c1
      rw [hdt] at hb
      have e1 : F.code = 0 := by unfold Fl.code; rw [if_neg c1]
      have eR : F.burntR = F.burnt := by unfold Fl.burntR Fl.burnt; rw [if_neg c1]
      have e2 : F.changed (anewA i) 0 ⟨#[]⟩ = F.burnt.anew i 0 ⟨#[]⟩ := by unfold Fl.changed; rw [if_neg c1]
      rw [e1, e2]
      rw [eR] at hb hn
      refine (rerase_zero H hS i hlk false _ hb (by rw [hn]; exact hi) (Or.inl rfl)).mono ?_
      rintro e w' ⟨rfl, a, b⟩
      exact ⟨rfl, a, b⟩
  · rw [if_pos hw]
    exact same 1 (rerase_err H i 1 (by unfold Fl.look; rw [if_neg hd, if_neg hw]) (by decide))

end Go.Proofs.Yteehhbgjjamjiaa
