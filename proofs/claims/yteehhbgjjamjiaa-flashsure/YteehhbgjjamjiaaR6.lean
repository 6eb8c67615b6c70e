/- The document's Program where the power goes within it; Program at whatever arguments. -/
import Derived.Test.YteehhbgjjamjiaaR5
namespace Go.Proofs.Yteehhbgjjamjiaa
open Go.RowKit

variable {w : World} {S : Nat → Prop} {hr gp gw cp cw : Nat} {pb cb : Nat → Nat} {bv : Nat → Nat → Value} {F : Fl} {kp : Int}

set_option maxRecDepth 100000 in
set_option maxHeartbeats 3200000 in
theorem rprog_torn (H : IsRf w S hr gp gw cp cw pb cb bv F kp) (hS : ∀ k, S k → k < w.heap.size) (i j : Nat) (hi : i < F.n) (hj : j < 16) (hd : F.down = false) (hs : F.st i j = 0) (xv : Value) (zs : List Int) (hz : Sees w .u8 xv zs) (hzA : ∀ a l c, xv = .slice (some a) l c → zs ≠ [] → ¬ OnlyR hr gp gw a.block) (_hby : Byt zs) (hl : zs.length ≤ 256)
    (went : Bool) (F1 : Fl) (HBn : Calls Try.prog 57 #[P0 hr] w fun e w' => e = .returned (.bool went) ∧ IsRf w' S hr gp gw cp cw pb cb bv F1 kp ∧ Upd (OnlyR hr gp gw) w.heap.size w w') (hi1 : i < F1.n) (hmode : went = true ∧ kp % 3 = 1) :
    Calls Try.prog 34 #[P0 hr, .int .i64 i, .int .i64 j, xv] w fun e w' => e = .returned (.int .i64 (if went then 7 else 0)) ∧ IsRfE w' S hr gp gw cp cw (F1.put i j 1 ⟨#[]⟩) ∧ Upd (OnlyR hr gp gw) w.heap.size w w' := by
  obtain ⟨i0, hi0, hz0, hz1, hz2⟩ := info_parts Try.info86
  have hlk : F.look i j = 0 := by
    unfold Fl.look; rw [hd, if_neg (by decide), if_pos ⟨by omega, by omega, by omega, by omega⟩]
  have HL := hide (look_any H i j)
  rw [hlk] at HL
  have HB := hide HBn
  have h0 := H.c0; have h1 := H.page i hi; have h2 := H.room i hi; have h3 := H.fitp
  obtain ⟨k0, _, _⟩ := H.cells i hi j hj
  rw [hs] at k0
  simp at k0
  obtain ⟨ao, cpx, rfl, hlc, hnil, hcl⟩ := id hz
  have HZ := hide hz
  have HZA := hide hzA
  clear H HBn hz hzA hcl hlk
  go_enter Try.func34, Try.ntmps34
  go_wp2_with fail
  refine (unhide HL).mono ?_
  rintro e w1 ⟨rfl, rfl⟩
  go_wp2_with fail
  refine (unhide HB).mono ?_
  rintro e w1 ⟨rfl, hI1, hU1⟩
  have HI1 := hide hI1
  have HU1 := hide hU1
  have g0 := hI1.c0; have g1 := hI1.page i hi1; have g2 := hI1.room i hi1; have g3 := hI1.fitp; have g4 := hI1.c3
  have hl1 := hU1.size
  clear hI1 hU1 h0 h1 k0 HL HB
  go_wp2_with (at_builtin; refine wpList_append_own _ rfl _ _ 87 rfl w1.heap.size 86 i0 (.agg #[.bool false, .bool false, .slice none 0 0]) 3 32 Try.underlying87 hi0 hz0 hz1 hz2 rfl (by decide) _ 0 [] rfl (World.ownsRow_nil _ _ _ _) ⟨pb i, 0, none⟩ 16 (cb i) (pgCells (F1.st i) (bv i)) rfl (by rw [pgCells_length]) ?d0 (pgCells_one _ _ (fun j hj => (unhide HI1).shape i j hi1 hj)) ?d1 ?d2 ?d3 ?_)
  case d0 =>
    intro t u hu
    have ht : t < 48 := by have := (List.getElem?_eq_some_iff.1 hu).1; rw [pgCells_length] at this; exact this
    rw [pgCells_at _ _ t ht] at hu
    have hadd : (⟨pb i, 0, none⟩ : Addr).add t = ⟨pb i, t, none⟩ := by unfold Addr.add; split <;> simp_all
    rw [hadd, ((unhide HI1).cells i hi1).at t ht, hu]
  case d1 => unfold maxLen; omega
  case d2 => omega
  case d3 => exact Nat.le_refl _
  intro lv w2 ho hg _
  have hb2 : Below w1.heap.size w1 w2 := (Below.refl _ _).grown hg (Nat.le_refl _) (fun k hk => by simp [Value.ownBlock] at hk)
  obtain ⟨pl, cpl, rfl, hcpl, hpl, hPg, hfr⟩ := own_pages (st := F1.st i) (bv := bv i) (by simpa using ho)
  have HI2 := hide ((unhide HI1).below hb2)
  have HB2 := hide hb2
  have hplt : pl < w2.heap.size := World.block_lt_of_cell? w2 _ (hPg 0 (by omega)).1
  have HPg := hide hPg
  have hl2 := hb2.size
  have f0 := (unhide HI2).c0; have f1 := (unhide HI2).page i hi1; have f3 := (unhide HI2).c3; have f4 := (unhide HI2).frP
  obtain ⟨p0, p1, p2⟩ := hPg j hj
  have hrl := (unhide HI1).rlt
  obtain ⟨r1, r2, r3, _⟩ := hrl
  clear ho hg hb2 hPg g0 g1 g4
  have HH := hide (how_any kp w2)
  obtain ⟨hwent, hk1⟩ := hmode
  subst hwent
  rw [hk1] at HH
  have hne : pl ≠ gp := by omega
  have hne2 : pl ≠ hr := by omega
  have finish : IsRfE ((((w2.setCell ⟨pl, j * 3, none⟩ (.bool true)).setCell ⟨pl, j * 3 + 1, none⟩ (.bool true)).setCell ⟨pl, j * 3 + 2, none⟩ (.slice none 0 0)).setCell ⟨gp, i, none⟩ (.slice (some ⟨pl, 0, none⟩) 16 cpl)) S hr gp gw cp cw (F1.put i j 1 ⟨#[]⟩) ∧ Upd (OnlyR hr gp gw) w.heap.size w ((((w2.setCell ⟨pl, j * 3, none⟩ (.bool true)).setCell ⟨pl, j * 3 + 1, none⟩ (.bool true)).setCell ⟨pl, j * 3 + 2, none⟩ (.slice none 0 0)).setCell ⟨gp, i, none⟩ (.slice (some ⟨pl, 0, none⟩) 16 cpl)) := by
    have hu : Upd (fun k => k = gp) w1.heap.size w1 ((((w2.setCell ⟨pl, j * 3, none⟩ (.bool true)).setCell ⟨pl, j * 3 + 1, none⟩ (.bool true)).setCell ⟨pl, j * 3 + 2, none⟩ (.slice none 0 0)).setCell ⟨gp, i, none⟩ (.slice (some ⟨pl, 0, none⟩) 16 cpl)) :=
      ((((Upd.of (S := fun k => k = gp) (unhide HB2)).setCell (p := ⟨pl, j * 3, none⟩) (Or.inr hpl) _).setCell (p := ⟨pl, j * 3 + 1, none⟩) (Or.inr hpl) _).setCell (p := ⟨pl, j * 3 + 2, none⟩) (Or.inr hpl) _).setCell (p := ⟨gp, i, none⟩) (Or.inl rfl) _
    have gpc : ∀ o, w2.cell? ⟨gp, o, none⟩ = w1.cell? ⟨gp, o, none⟩ := fun o => (unhide HB2).cell (p := ⟨gp, o, none⟩) r2
    have est : (F1.put i j 1 ⟨#[]⟩).st i = fun k => if k = j then 1 else F1.st i k := by funext k; show (if i = i ∧ k = j then _ else _) = _; by_cases c : k = j <;> simp [c]
    have estk : ∀ k, (F1.put i j 1 ⟨#[]⟩).st i k = if k = j then 1 else F1.st i k := fun k => by rw [est]
    have ebs : ∀ k, k ≠ j → (F1.put i j 1 ⟨#[]⟩).bs i k = F1.bs i k := fun k c => by show (if i = i ∧ k = j then _ else _) = _; rw [if_neg (fun d => c d.2)]; rfl
    refine ⟨⟨_, _, _, kp, (unhide HI1).install hu (fun o => by simp only [World.frozen?_setCell]; exact f4 o) (fun k hk => by have := hS k hk; omega) i hi1 pl cpl hcpl hpl ?_ (fun k hk => ?_) (F1.put i j 1 ⟨#[]⟩) rfl rfl rfl rfl rfl (fun k hk => ?_) (fun k hk => ?_) (fun k => if k = j then .slice none 0 0 else bv i k) ?_ (fun k hk => ?_) (fun k hk h2 => ?_) (fun k hk h2 => ?_) (fun k hk => ?_)⟩, (unhide HU1).trans ((onlyR_gp hu).less hl1)⟩
    · refine cs_same (u := .slice (some ⟨pb i, 0, none⟩) 16 (cb i)) ?_
      rw [cs_other (addr_ne (Or.inl hne)), cs_other (addr_ne (Or.inl hne)), cs_other (addr_ne (Or.inl hne)), gpc]
      exact (unhide HI1).page i hi1
    · rw [cs_other (addr_ne (Or.inr hk.symm)), cs_other (addr_ne (Or.inl hne)), cs_other (addr_ne (Or.inl hne)), cs_other (addr_ne (Or.inl hne)), gpc]
    · funext k'; show (if k = i ∧ k' = j then _ else _) = _; rw [if_neg (fun c => hk c.1)]
    · funext k'; show (if k = i ∧ k' = j then _ else _) = _; rw [if_neg (fun c => hk c.1)]; rfl
    · have := ((unhide HPg).set j hj 1 (.slice none 0 0)).keep (w' := ((((w2.setCell ⟨pl, j * 3, none⟩ (.bool true)).setCell ⟨pl, j * 3 + 1, none⟩ (.bool true)).setCell ⟨pl, j * 3 + 2, none⟩ (.slice none 0 0)).setCell ⟨gp, i, none⟩ (.slice (some ⟨pl, 0, none⟩) 16 cpl))) (Below.heap_setCell _ _ _ _ hne)
      rw [est]
      exact this
    · by_cases c : k = j
      · exact ⟨_, _, _, by rw [if_pos c]⟩
      · rw [if_neg c]; exact (unhide HI1).shape i k hi1 hk
    · rw [estk] at h2
      by_cases c : k = j
      · rw [if_pos c] at h2; cases h2
      · rw [if_neg c] at h2
        rw [if_neg c, ebs k c]
        exact ((unhide HI1).bytes i k hi1 hk h2).upd hu (Nat.le_refl _) (fun x _ h d => h (Or.inr (Or.inl d)))
    · rw [estk] at h2
      by_cases c : k = j
      · rw [if_pos c] at h2; cases h2
      · rw [if_neg c] at h2
        rw [ebs k c]
        exact (unhide HI1).full i k hi1 hk h2
    · rw [estk]
      by_cases c : k = j
      · right; left; rw [if_pos c]
      · rw [if_neg c]; exact (unhide HI1).stOk i k hi1 hk
  have FN := hide finish
  clear finish HZ HZA hk1
  go_wp2_with fail
  refine (unhide HH).mono ?_
  rintro e wq ⟨rfl, rfl⟩
  go_wp2_with fail
  refine (unhide HH).mono ?_
  rintro e wq ⟨rfl, rfl⟩
  go_wp2
  go_ret
  exact ⟨rfl, (unhide FN).1, (unhide FN).2⟩

set_option maxRecDepth 100000 in
set_option maxHeartbeats 3200000 in
theorem rprog_none (H : IsRf w S hr gp gw cp cw pb cb bv F kp) (hS : ∀ k, S k → k < w.heap.size) (i j : Nat) (hi : i < F.n) (hj : j < 16) (hd : F.down = false) (hs : F.st i j = 0) (xv : Value) (zs : List Int) (hz : Sees w .u8 xv zs) (hzA : ∀ a l c, xv = .slice (some a) l c → zs ≠ [] → ¬ OnlyR hr gp gw a.block) (_hby : Byt zs) (hl : zs.length ≤ 256)
    (went : Bool) (F1 : Fl) (HBn : Calls Try.prog 57 #[P0 hr] w fun e w' => e = .returned (.bool went) ∧ IsRf w' S hr gp gw cp cw pb cb bv F1 kp ∧ Upd (OnlyR hr gp gw) w.heap.size w w') (hi1 : i < F1.n) (hmode : went = true ∧ kp % 3 = 0) :
    Calls Try.prog 34 #[P0 hr, .int .i64 i, .int .i64 j, xv] w fun e w' => e = .returned (.int .i64 (if went then 7 else 0)) ∧ IsRfE w' S hr gp gw cp cw F1 ∧ Upd (OnlyR hr gp gw) w.heap.size w w' := by
  obtain ⟨i0, hi0, hz0, hz1, hz2⟩ := info_parts Try.info86
  have hlk : F.look i j = 0 := by
    unfold Fl.look; rw [hd, if_neg (by decide), if_pos ⟨by omega, by omega, by omega, by omega⟩]
  have HL := hide (look_any H i j)
  rw [hlk] at HL
  have HB := hide HBn
  have h0 := H.c0; have h1 := H.page i hi; have h2 := H.room i hi; have h3 := H.fitp
  obtain ⟨k0, _, _⟩ := H.cells i hi j hj
  rw [hs] at k0
  simp at k0
  obtain ⟨ao, cpx, rfl, hlc, hnil, hcl⟩ := id hz
  have HZ := hide hz
  have HZA := hide hzA
  clear H HBn hz hzA hcl hlk
  go_enter Try.func34, Try.ntmps34
  go_wp2_with fail
  refine (unhide HL).mono ?_
  rintro e w1 ⟨rfl, rfl⟩
  go_wp2_with fail
  refine (unhide HB).mono ?_
  rintro e w1 ⟨rfl, hI1, hU1⟩
  have HI1 := hide hI1
  have HU1 := hide hU1
  have g0 := hI1.c0; have g1 := hI1.page i hi1; have g2 := hI1.room i hi1; have g3 := hI1.fitp; have g4 := hI1.c3
  have hl1 := hU1.size
  clear hI1 hU1 h0 h1 k0 HL HB
  go_wp2_with (at_builtin; refine wpList_append_own _ rfl _ _ 87 rfl w1.heap.size 86 i0 (.agg #[.bool false, .bool false, .slice none 0 0]) 3 32 Try.underlying87 hi0 hz0 hz1 hz2 rfl (by decide) _ 0 [] rfl (World.ownsRow_nil _ _ _ _) ⟨pb i, 0, none⟩ 16 (cb i) (pgCells (F1.st i) (bv i)) rfl (by rw [pgCells_length]) ?d0 (pgCells_one _ _ (fun j hj => (unhide HI1).shape i j hi1 hj)) ?d1 ?d2 ?d3 ?_)
  case d0 =>
    intro t u hu
    have ht : t < 48 := by have := (List.getElem?_eq_some_iff.1 hu).1; rw [pgCells_length] at this; exact this
    rw [pgCells_at _ _ t ht] at hu
    have hadd : (⟨pb i, 0, none⟩ : Addr).add t = ⟨pb i, t, none⟩ := by unfold Addr.add; split <;> simp_all
    rw [hadd, ((unhide HI1).cells i hi1).at t ht, hu]
  case d1 => unfold maxLen; omega
  case d2 => omega
  case d3 => exact Nat.le_refl _
  intro lv w2 ho hg _
  have hb2 : Below w1.heap.size w1 w2 := (Below.refl _ _).grown hg (Nat.le_refl _) (fun k hk => by simp [Value.ownBlock] at hk)
  obtain ⟨pl, cpl, rfl, hcpl, hpl, hPg, hfr⟩ := own_pages (st := F1.st i) (bv := bv i) (by simpa using ho)
  have HI2 := hide ((unhide HI1).below hb2)
  have HB2 := hide hb2
  have hplt : pl < w2.heap.size := World.block_lt_of_cell? w2 _ (hPg 0 (by omega)).1
  have HPg := hide hPg
  have hl2 := hb2.size
  have f0 := (unhide HI2).c0; have f1 := (unhide HI2).page i hi1; have f3 := (unhide HI2).c3; have f4 := (unhide HI2).frP
  obtain ⟨p0, p1, p2⟩ := hPg j hj
  have hrl := (unhide HI1).rlt
  obtain ⟨r1, r2, r3, _⟩ := hrl
  clear ho hg hb2 hPg g0 g1 g4
  have HH := hide (how_any kp w2)
  obtain ⟨hwent, hk1⟩ := hmode
  subst hwent
  rw [hk1] at HH
  have hne : pl ≠ gp := by omega
  have finish : IsRfE (w2.setCell ⟨gp, i, none⟩ (.slice (some ⟨pl, 0, none⟩) 16 cpl)) S hr gp gw cp cw F1 ∧ Upd (OnlyR hr gp gw) w.heap.size w (w2.setCell ⟨gp, i, none⟩ (.slice (some ⟨pl, 0, none⟩) 16 cpl)) := by
    have hu : Upd (fun k => k = gp) w1.heap.size w1 (w2.setCell ⟨gp, i, none⟩ (.slice (some ⟨pl, 0, none⟩) 16 cpl)) := (Upd.of (S := fun k => k = gp) (unhide HB2)).setCell (p := ⟨gp, i, none⟩) (Or.inl rfl) _
    have gpc : ∀ o, w2.cell? ⟨gp, o, none⟩ = w1.cell? ⟨gp, o, none⟩ := fun o => (unhide HB2).cell (p := ⟨gp, o, none⟩) r2
    refine ⟨⟨_, _, _, kp, (unhide HI1).install hu (fun o => by simp only [World.frozen?_setCell]; exact f4 o) (fun k hk => by have := hS k hk; omega) i hi1 pl cpl hcpl hpl ?_ (fun k hk => ?_) F1 rfl rfl rfl rfl rfl (fun k hk => rfl) (fun k hk => rfl) (bv i) ((unhide HPg).keep (Below.heap_setCell _ _ _ _ hne)) (fun k hk => (unhide HI1).shape i k hi1 hk) (fun k hk h2 => ((unhide HI1).bytes i k hi1 hk h2).upd hu (Nat.le_refl _) (fun x _ h d => h (Or.inr (Or.inl d)))) (fun k hk h2 => (unhide HI1).full i k hi1 hk h2) (fun k hk => (unhide HI1).stOk i k hi1 hk)⟩, (unhide HU1).trans ((onlyR_gp hu).less hl1)⟩
    · refine cs_same (u := .slice (some ⟨pb i, 0, none⟩) 16 (cb i)) ?_
      rw [gpc]
      exact (unhide HI1).page i hi1
    · rw [cs_other (addr_ne (Or.inr hk.symm)), gpc]
  have FN := hide finish
  clear finish HZ HZA hk1
  go_wp2_with fail
  refine (unhide HH).mono ?_
  rintro e wq ⟨rfl, rfl⟩
  go_wp2_with fail
  refine (unhide HH).mono ?_
  rintro e wq ⟨rfl, rfl⟩
  go_wp2
  go_ret
  exact ⟨rfl, (unhide FN).1, (unhide FN).2⟩

theorem IsRfE.fallKeep {w : World} {F : Fl} (h : IsRfE w S hr gp gw cp cw F) (hc : F.cnt = 0) : IsRfE w S hr gp gw cp cw { F with keep := 0 } := by
  obtain ⟨pb, cb, bv, kp, H⟩ := h
  exact ⟨pb, cb, bv, kp, H.anyKeep 0 hc⟩

set_option maxHeartbeats 800000 in
theorem rprog_err (H : IsRf w S hr gp gw cp cw pb cb bv F kp) (i j er : Int) (he : F.look i j = er) (h0 : er ≠ 0) (xv : Value) :
    Calls Try.prog 34 #[P0 hr, .int .i64 i, .int .i64 j, xv] w fun e w' => e = .returned (.int .i64 er) ∧ w = w' := by
  have HL := hide (look_any H i j)
  rw [he] at HL
  clear H he
  go_enter Try.func34, Try.ntmps34
  go_wp2_with fail
  refine (unhide HL).mono ?_
  rintro e w1 ⟨rfl, rfl⟩
  go_wp2
  go_ret
  exact ⟨rfl, rfl⟩

set_option maxRecDepth 100000 in
set_option maxHeartbeats 800000 in
theorem rprog_long (H : IsRf w S hr gp gw cp cw pb cb bv F kp) (i j : Int) (he : F.look i j = 0) (ao : Option Addr) (n c : Nat) (hl : 256 < n) :
    Calls Try.prog 34 #[P0 hr, .int .i64 i, .int .i64 j, .slice ao n c] w fun e w' => e = .returned (.int .i64 1) ∧ w = w' := by
  have HL := hide (look_any H i j)
  rw [he] at HL
  clear H he
  go_enter Try.func34, Try.ntmps34
  go_wp2_with fail
  refine (unhide HL).mono ?_
  rintro e w1 ⟨rfl, rfl⟩
  go_wp2
  go_ret
  exact ⟨rfl, rfl⟩

set_option maxRecDepth 100000 in
set_option maxHeartbeats 800000 in
theorem rprog_used (H : IsRf w S hr gp gw cp cw pb cb bv F kp) (i j : Nat) (hi : i < F.n) (hj : j < 16) (he : F.look i j = 0) (hs : F.st i j ≠ 0) (ao : Option Addr) (n c : Nat) (hl : n ≤ 256) :
    Calls Try.prog 34 #[P0 hr, .int .i64 i, .int .i64 j, .slice ao n c] w fun e w' => e = .returned (.int .i64 20) ∧ w = w' := by
  have HL := hide (look_any H i j)
  rw [he] at HL
  have h0 := H.c0; have h1 := H.page i hi; have h2 := H.room i hi; have h3 := H.fitp
  obtain ⟨k0, _, _⟩ := H.cells i hi j hj
  have hb : decide (F.st i j ≠ 0) = true := by simpa using hs
  rw [hb] at k0
  clear H he hs hb
  go_enter Try.func34, Try.ntmps34
  go_wp2_with fail
  refine (unhide HL).mono ?_
  rintro e w1 ⟨rfl, rfl⟩
  go_wp2
  go_ret
  exact ⟨rfl, rfl⟩

theorem rprog_all (H : IsRf w S hr gp gw cp cw pb cb bv F kp) (hS : ∀ k, S k → k < w.heap.size) (i j : Int) (xv : Value) (zs : List Int) (hz : Sees w .u8 xv zs) (hzA : ∀ a l c, xv = .slice (some a) l c → zs ≠ [] → ¬ OnlyR hr gp gw a.block) (hby : Byt zs) :
    Calls Try.prog 34 #[P0 hr, .int .i64 i, .int .i64 j, xv] w fun e w' => e = .returned (.int .i64 (F.prog i j zs).1) ∧ IsRfE w' S hr gp gw cp cw (F.prog i j zs).2 ∧ Upd (OnlyR hr gp gw) w.heap.size w w' := by
  unfold Fl.prog
  have same : ∀ er : Int, (Calls Try.prog 34 #[P0 hr, .int .i64 i, .int .i64 j, xv] w fun e w' => e = .returned (.int .i64 er) ∧ w = w') → Calls Try.prog 34 #[P0 hr, .int .i64 i, .int .i64 j, xv] w fun e w' => e = .returned (.int .i64 er) ∧ IsRfE w' S hr gp gw cp cw F ∧ Upd (OnlyR hr gp gw) w.heap.size w w' := fun er h => h.mono (by
    rintro e w' ⟨rfl, rfl⟩
    exact ⟨rfl, ⟨pb, cb, bv, kp, H⟩, Upd.refl _ _ _⟩)
  by_cases hd : F.down = true
  · rw [if_pos hd]
    exact same 7 (rprog_err H i j 7 (by unfold Fl.look; rw [if_pos hd]) (by decide) xv)
  rw [if_neg hd]
  have hd' : F.down = false := by simpa using hd
  by_cases hw : F.within i j
  · rw [if_neg (not_not_intro hw)]
    have hlk : F.look i j = 0 := by unfold Fl.look; rw [if_neg hd, if_pos hw]
    obtain ⟨h1, h2, h3, h4⟩ := hw
    obtain ⟨i, rfl⟩ := nat_of h1
    obtain ⟨j, rfl⟩ := nat_of h3
    have hi : i < F.n := by omega
    have hj : j < 16 := by omega
    simp only [Int.toNat_natCast]
    obtain ⟨ao, cpx, hv, hlc, hnil, hcl⟩ := id hz
    by_cases hl : 256 < zs.length
    · rw [if_pos hl]
      subst hv
      exact same 1 (rprog_long H i j hlk ao zs.length cpx hl)
    rw [if_neg hl]
    by_cases hs : F.st i j = 0
    · rw [if_neg (not_not_intro hs)]
      have hn := (burntR_pg F).1
      by_cases c1 : F.cnt = 1
      · have hb := rburn_any H
        have hdt : decide (F.cnt = 1) = true := by simpa using c1
        rw [hdt] at hb
        have e1 : F.code = 7 := by unfold Fl.code; rw [if_pos c1]
        have eR : F.burntR = { F with cnt := 0, down := true } := by unfold Fl.burntR; rw [if_neg (by omega), if_pos c1]
        have eB : F.burnt = { F with cnt := 0 } := by rw [burnt_of F (by omega), c1]; rfl
        have hk := H.keep (by omega)
        rw [eR] at hb hn
        by_cases k2 : F.keep = 2
        · have e2 : F.changed (putA i j) 2 (strOf (pageL zs)) = { ({ F with cnt := 0, down := true } : Fl).put i j 2 (strOf (pageL zs)) with keep := 0 } := by unfold Fl.changed; rw [if_pos c1, if_pos k2, eB]; rfl
          rw [e1, e2]
          refine (rprog_put H hS i j hi hj hd' hs xv zs hz hzA hby (by omega) true _ hb (by rw [hn]; exact hi) (Or.inr (by omega))).mono ?_
          rintro e w' ⟨rfl, a, b⟩
          exact ⟨rfl, a.fallKeep rfl, b⟩
        · by_cases k1 : F.keep = 1
          · have e2 : F.changed (putA i j) 2 (strOf (pageL zs)) = { ({ F with cnt := 0, down := true } : Fl).put i j 1 ⟨#[]⟩ with keep := 0 } := by unfold Fl.changed; rw [if_pos c1, if_neg k2, if_pos k1, eB]; rfl
            rw [e1, e2]
            refine (rprog_torn H hS i j hi hj hd' hs xv zs hz hzA hby (by omega) true _ hb (by rw [hn]; exact hi) ⟨rfl, by omega⟩).mono ?_
            rintro e w' ⟨rfl, a, b⟩
            exact ⟨rfl, a.fallKeep rfl, b⟩
          · have e2 : F.changed (putA i j) 2 (strOf (pageL zs)) = { ({ F with cnt := 0, down := true } : Fl) with keep := 0 } := by unfold Fl.changed; rw [if_pos c1, if_neg k2, if_neg k1, eB]; rfl
            rw [e1, e2]
            refine (rprog_none H hS i j hi hj hd' hs xv zs hz hzA hby (by omega) true _ hb (by rw [hn]; exact hi) ⟨rfl, by omega⟩).mono ?_
            rintro e w' ⟨rfl, a, b⟩
            exact ⟨rfl, a.fallKeep rfl, b⟩
      · have hb := rburn_any H
        have hdt : decide (F.cnt = 1) = false := by simpa using c1
        rw [hdt] at hb
        have e1 : F.code = 0 := by unfold Fl.code; rw [if_neg c1]
        have eR : F.burntR = F.burnt := by unfold Fl.burntR Fl.burnt; rw [if_neg c1]
        have e2 : F.changed (putA i j) 2 (strOf (pageL zs)) = F.burnt.put i j 2 (strOf (pageL zs)) := by unfold Fl.changed; rw [if_neg c1]
        rw [e1, e2]
        rw [eR] at hb hn
        refine (rprog_put H hS i j hi hj hd' hs xv zs hz hzA hby (by omega) false _ hb (by rw [hn]; exact hi) (Or.inl rfl)).mono ?_
        rintro e w' ⟨rfl, a, b⟩
        exact ⟨rfl, a, b⟩
    · rw [if_pos hs]
      subst hv
      exact same 20 (rprog_used H i j hi hj hlk hs ao zs.length cpx (by omega))
  · rw [if_pos hw]
    exact same 1 (rprog_err H i j 1 (by unfold Fl.look; rw [if_neg hd, if_neg hw]) (by decide) xv)

end Go.Proofs.Yteehhbgjjamjiaa
