/- Several texts as one. -/
import Derived.Test.YtiijbklaapaheaaGreatKN
import Derived.Test.YtiijbklaapaheaaGreatKU

/- The document's Spoil where it turns a byte. -/
namespace Go.Proofs.YtiijbklaapaheaaGreat
open Go.RowKit
set_option maxRecDepth 100000

variable {w : World} {S : Nat → Prop} {hr gp gw cp cw : Nat} {pb cb : Nat → Nat} {bv : Nat → Nat → Value} {F : Fl} {kp : Int}

theorem own_own8 {w : World} {B n : Nat} {v : Value} {ys : List Int} (h : w.ownsRow B 5 1 v n (ints .u8 ys)) (h0 : 0 < ys.length) : Own8 B w v ys := by
  have hl : n = ys.length := (sees_of_own h).1
  subst hl
  have h' := h
  rcases h'.2 with ⟨_, h1⟩ | ⟨g, cap, cur, rfl, hB, hh, hcap, _⟩
  · omega
  refine ⟨g, cap, rfl, hcap, hB, fun t ht => ?_, fun t _ => h.frozenAt t⟩
  have := h.cells (g := g) rfl t (.int .u8 (ys.getD t 0)) (by simp [ints, List.getD, ht])
  have hadd : (⟨g, 0, none⟩ : Addr).add t = ⟨g, t, none⟩ := by unfold Addr.add; split <;> simp_all
  rw [hadd] at this
  exact this

/-- Only the bytes of one page are turned. -/
theorem PgAt.setB {w : World} {b : Nat} {st : Nat → Int} {bv : Nat → Value} (h : PgAt w b st bv) (j : Nat) (hj : j < 16) (v : Value) : PgAt (w.setCell ⟨b, j * 3 + 2, none⟩ v) b st (fun k => if k = j then v else bv k) := by
  intro k hk
  obtain ⟨h0, h1, h2⟩ := h k hk
  refine ⟨?_, ?_, ?_⟩
  · rw [cs_other (addr_ne (Or.inr (by omega)))]; exact h0
  · rw [cs_other (addr_ne (Or.inr (by omega)))]; exact h1
  · by_cases c : k = j
    · subst c; simp only [if_true]; exact cs_same h2
    · simp only [if_neg c]; rw [cs_other (addr_ne (Or.inr (by omega)))]; exact h2

set_option maxRecDepth 100000 in
set_option maxHeartbeats 3200000 in
theorem rspoil_ok (H : IsRf w S hr gp gw cp cw pb cb bv F kp) (hS : ∀ k, S k → k < w.heap.size) (i j a : Nat) (x : Int) (hi : i < F.n) (hj : j < 16) (he : F.look i j = 0) (ha : a < 256) (x0 : 0 ≤ x) (x1 : x ≤ 255) (hs : F.st i j = 2) :
    Calls Tryz.prog 28 #[P0 hr, .int .i64 i, .int .i64 j, .int .i64 a, .int .u8 x] w fun e w' => e = .returned (.int .i64 0) ∧ IsRfE w' S hr gp gw cp cw (F.setBs i j (strOf (turn (bytesOf (F.bs i j)) a x))) ∧ Upd (OnlyRf hr gp gw) w.heap.size w w' := by
  obtain ⟨i0, hi0, hz0, hz1, hz2⟩ := info_parts Tryz.info67
  obtain ⟨j0, hj0, hy0, hy1, hy2⟩ := info_parts Tryz.info5
  have HL := hide (look_any H i j)
  rw [he] at HL
  have eA : F.atE i j = 0 := by unfold Fl.atE; rw [hs]; rfl
  have HA := hide (at_any H i j hi hj)
  rw [eA] at HA
  obtain ⟨ba, bl, bc, hbv⟩ := H.shape i j hi hj
  have hfull := H.full i j hi hj hs
  have hbyt := bytesOf_byt (F.bs i j)
  have hbl : (bytesOf (F.bs i j)).length = 256 := by rw [bytesOf_length]; exact hfull
  have HBL := hide hbl
  have HBV := hide hbv
  have hbb := H.bytes i j hi hj hs
  have hl256 : (bytesOf (F.bs i j)).length ≤ 256 := by omega
  have HH := hide H
  clear H he eA hs hfull hbl hbv
  go_enter Tryz.func28, Tryz.ntmps28
  go_wp2_with fail
  refine (unhide HL).mono ?_
  rintro e w1 ⟨rfl, rfl⟩
  go_wp2_with fail
  refine (unhide HA).mono ?_
  rintro e w1 ⟨rfl, hb1⟩
  have HI1 := hide ((unhide HH).below hb1)
  have HB1 := hide hb1
  have hl1 := hb1.size
  have g0 := (unhide HI1).c0; have g1 := (unhide HI1).page i hi; have g2 := (unhide HI1).room i hi; have g3 := (unhide HI1).fitp
  have g4 := ((unhide HI1).cells i hi j hj).2.2
  rw [unhide HBV] at g4 hbb
  have HS1 := hide (hbb.1.below hb1)
  clear hb1 HL HA hbb
  go_wp2_with (at_builtin; refine wpList_append_sees rfl _ _ 33 rfl w1.heap.size 5 j0 (.int .u8 0) 1 Tryz.underlying33 hj0 hy0 hy1 hy2 rfl _ 0 [] rfl (World.ownsRow_nil _ _ _ _) .u8 _ (bytesOf (F.bs i j)) rfl ?d0 ?d1 ?d2 ?d3 ?_)
  case d0 => exact unhide HS1
  case d1 => unfold maxLen; omega
  case d2 => omega
  case d3 => exact Nat.le_refl _
  intro xv w2 ho hg
  have hb2 : Below w1.heap.size w1 w2 := (Below.refl _ _).grown hg (Nat.le_refl _) (fun k hk => by simp [Value.ownBlock] at hk)
  have ho : w2.ownsRow w1.heap.size 5 1 xv (bytesOf (F.bs i j)).length (ints .u8 (bytesOf (F.bs i j))) := by simpa using ho
  have hO := own_own8 ho (by rw [unhide HBL]; omega)
  obtain ⟨gx, cx, rfl, hcx, hgx, hc, hf⟩ := id hO
  rw [unhide HBL] at hO hc hf hcx ⊢
  have ca := hc a ha
  have fa := hf a ha
  have hO2 := hO.set a (by rw [unhide HBL]; exact ha) (bits .xor .u8 ((bytesOf (F.bs i j)).getD a 0) x)
  obtain ⟨u, hu⟩ : ∃ u, (bytesOf (F.bs i j)).getD a 0 = u := ⟨_, rfl⟩
  have hub := hbyt.get a
  rw [hu] at ca hub
  have HO2 : Hid (Own8 w1.heap.size (w2.setCell ⟨gx, a, none⟩ (.int .u8 (bits .xor .u8 u x))) (.slice (some ⟨gx, 0, none⟩) 256 cx) (turn (bytesOf (F.bs i j)) a x)) := by rw [← hu]; exact hO2
  obtain ⟨w3, hw3⟩ : ∃ w3, w2.setCell ⟨gx, a, none⟩ (.int .u8 (bits .xor .u8 u x)) = w3 := ⟨_, rfl⟩
  have hgxl : gx < w2.heap.size := World.block_lt_of_cell? w2 _ ca
  have hu3 : Upd (fun _ => False) w1.heap.size w1 w3 := by rw [← hw3]; exact (Upd.of hb2).setCell (Or.inr hgx) _
  have HU3 := hide hu3
  have hl3 := hu3.size
  have HI3 := hide ((unhide HI1).upd hu3 (Nat.le_refl _) (fun _ _ c => c.elim))
  rw [hw3] at HO2
  have hl23 : w3.heap.size = w2.heap.size := by rw [← hw3]; simp [World.setCell]
  have k0 := (unhide HI3).c0; have k1 := (unhide HI3).page i hi
  obtain ⟨hub0, hub1⟩ := hub
  have HW3 := hide hw3
  clear hO2 hO ho hg hc hf hb2 hu hu3 g0 g1 g4
  go_wp2_with (at_builtin; refine wpList_append_own _ rfl _ _ 50 rfl w3.heap.size 67 i0 (.agg #[.bool false, .bool false, .slice none 0 0]) 3 32 Tryz.underlying50 hi0 hz0 hz1 hz2 rfl (by decide) _ 0 [] rfl (World.ownsRow_nil _ _ _ _) ⟨pb i, 0, none⟩ 16 (cb i) (pgCells (F.st i) (bv i)) rfl (by rw [pgCells_length]) ?e0 (pgCells_one _ _ (fun j hj => (unhide HI3).shape i j hi hj)) ?e1 ?e2 ?e3 ?_)
  case e0 =>
    intro t u hu
    have ht : t < 48 := by have := (List.getElem?_eq_some_iff.1 hu).1; rw [pgCells_length] at this; exact this
    rw [pgCells_at _ _ t ht] at hu
    have hadd : (⟨pb i, 0, none⟩ : Addr).add t = ⟨pb i, t, none⟩ := by unfold Addr.add; split <;> simp_all
    rw [hadd, ((unhide HI3).cells i hi).at t ht, hu]
  case e1 => unfold maxLen; omega
  case e2 => omega
  case e3 => exact Nat.le_refl _
  intro lv w4 ho hg _
  have hb4 : Below w3.heap.size w3 w4 := (Below.refl _ _).grown hg (Nat.le_refl _) (fun k hk => by simp [Value.ownBlock] at hk)
  obtain ⟨pl, cpl, rfl, hcpl, hpl, hPg, hfr⟩ := own_pages (st := F.st i) (bv := bv i) (by simpa using ho)
  have HI4 := hide ((unhide HI3).below hb4)
  have HB4 := hide hb4
  have hplt : pl < w4.heap.size := World.block_lt_of_cell? w4 _ (hPg 0 (by omega)).1
  have HPg := hide hPg
  have f0 := (unhide HI4).c0; have f1 := (unhide HI4).page i hi; have f4 := (unhide HI4).frP
  obtain ⟨p0, p1, p2⟩ := hPg j hj
  obtain ⟨r1, r2, r3, _⟩ := (unhide HI1).rlt
  have hl4 := hb4.size
  have hne : pl ≠ gp := by omega
  have hne2 : pl ≠ hr := by omega
  have HO4 : Hid (Sees w4 .u8 (.slice (some ⟨gx, 0, none⟩) 256 cx) (turn (bytesOf (F.bs i j)) a x)) := (unhide HO2).sees.below hb4
  have finish : IsRfE ((w4.setCell ⟨pl, j * 3 + 2, none⟩ (.slice (some ⟨gx, 0, none⟩) 256 cx)).setCell ⟨gp, i, none⟩ (.slice (some ⟨pl, 0, none⟩) 16 cpl)) S hr gp gw cp cw (F.setBs i j (strOf (turn (bytesOf (F.bs i j)) a x))) ∧ Upd (OnlyRf hr gp gw) w.heap.size w ((w4.setCell ⟨pl, j * 3 + 2, none⟩ (.slice (some ⟨gx, 0, none⟩) 256 cx)).setCell ⟨gp, i, none⟩ (.slice (some ⟨pl, 0, none⟩) 16 cpl)) := by
    have hu : Upd (fun k => k = gp) w1.heap.size w1 ((w4.setCell ⟨pl, j * 3 + 2, none⟩ (.slice (some ⟨gx, 0, none⟩) 256 cx)).setCell ⟨gp, i, none⟩ (.slice (some ⟨pl, 0, none⟩) 16 cpl)) :=
      ((((unhide HU3).mono (S' := fun k => k = gp) (Nat.le_refl _) (fun _ _ c => c.elim)).trans ((Upd.of hb4).less hl3)).setCell (p := ⟨pl, j * 3 + 2, none⟩) (Or.inr (by show w1.heap.size ≤ pl; omega)) _).setCell (p := ⟨gp, i, none⟩) (Or.inl rfl) _
    have gpc : ∀ o, w4.cell? ⟨gp, o, none⟩ = w1.cell? ⟨gp, o, none⟩ := fun o => (hb4.cell (p := ⟨gp, o, none⟩) (by show gp < _; omega)).trans ((unhide HU3).cell (p := ⟨gp, o, none⟩) r2 id)
    have ebs : ∀ k, k ≠ j → (F.setBs i j (strOf (turn (bytesOf (F.bs i j)) a x))).bs i k = F.bs i k := fun k c => by show (if i = i ∧ k = j then _ else _) = _; rw [if_neg (fun d => c d.2)]
    have ebj : (F.setBs i j (strOf (turn (bytesOf (F.bs i j)) a x))).bs i j = strOf (turn (bytesOf (F.bs i j)) a x) := by show (if i = i ∧ j = j then _ else _) = _; rw [if_pos ⟨rfl, rfl⟩]
    refine ⟨⟨_, _, _, kp, (unhide HI1).install hu (fun o => by simp only [World.frozen?_setCell]; exact f4 o) (fun k hk => by have := hS k hk; omega) i hi pl cpl hcpl (by omega) ?_ (fun k hk => ?_) (F.setBs i j (strOf (turn (bytesOf (F.bs i j)) a x))) rfl rfl rfl rfl rfl (fun k hk => rfl) (fun k hk => ?_) (fun k => if k = j then .slice (some ⟨gx, 0, none⟩) 256 cx else bv i k) ?_ (fun k hk => ?_) (fun k hk h2 => ?_) (fun k hk h2 => ?_) (fun k hk => (unhide HI1).stOk i k hi hk)⟩, (Upd.of (unhide HB1)).trans ((onlyR_gp hu).less hl1)⟩
    · refine cs_same (u := .slice (some ⟨pb i, 0, none⟩) 16 (cb i)) ?_
      rw [cs_other (addr_ne (Or.inl hne)), gpc]
      exact (unhide HI1).page i hi
    · rw [cs_other (addr_ne (Or.inr hk.symm)), cs_other (addr_ne (Or.inl hne)), gpc]
    · funext k'; show (if k = i ∧ k' = j then _ else _) = _; rw [if_neg (fun c => hk c.1)]
    · exact ((unhide HPg).setB j hj (.slice (some ⟨gx, 0, none⟩) 256 cx)).keep (w' := ((w4.setCell ⟨pl, j * 3 + 2, none⟩ (.slice (some ⟨gx, 0, none⟩) 256 cx)).setCell ⟨gp, i, none⟩ (.slice (some ⟨pl, 0, none⟩) 16 cpl))) (Below.heap_setCell _ _ _ _ hne)
    · by_cases c : k = j
      · exact ⟨_, _, _, by rw [if_pos c]⟩
      · rw [if_neg c]; exact (unhide HI1).shape i k hi hk
    · by_cases c : k = j
      · subst c
        rw [if_pos rfl, ebj, bytesOf_strOf (turn_byt hbyt a x x0 x1)]
        have s1 : SeesA (fun y => y < w1.heap.size ∨ y = pl) w4 (.slice (some ⟨gx, 0, none⟩) 256 cx) (turn (bytesOf (F.bs i k)) a x) := ⟨unhide HO4, fun b l c e d => by
          simp only [Value.slice.injEq, Option.some.injEq] at e
          rw [← e.1] at d
          rcases d with d | d
          · simp only at d; omega
          · simp only at d; omega⟩
        have hu5 : Upd (fun y => y < w1.heap.size ∨ y = pl) w4.heap.size w4 ((w4.setCell ⟨pl, k * 3 + 2, none⟩ (.slice (some ⟨gx, 0, none⟩) 256 cx)).setCell ⟨gp, i, none⟩ (.slice (some ⟨pl, 0, none⟩) 16 cpl)) :=
          ((Upd.refl (fun y => y < w1.heap.size ∨ y = pl) w4.heap.size w4).setCell (p := ⟨pl, k * 3 + 2, none⟩) (Or.inl (Or.inr rfl)) _).setCell (p := ⟨gp, i, none⟩) (Or.inl (Or.inl r2)) _
        have s2 := s1.upd hu5 (Nat.le_refl _) (fun y _ h => h)
        refine ⟨s2.1, fun b l c e d => ?_⟩
        simp only [Value.slice.injEq, Option.some.injEq] at e
        rw [← e.1] at d
        rcases d with d | d | d | d
        · simp only at d; omega
        · simp only at d; omega
        · simp only at d; omega
        · have := hS _ d; simp only at this; omega
      · rw [if_neg c, ebs k c]
        exact ((unhide HI1).bytes i k hi hk h2).upd hu (Nat.le_refl _) (fun y _ h d => h (Or.inr (Or.inl d)))
    · by_cases c : k = j
      · subst c
        rw [ebj]
        show (strOf (turn (bytesOf (F.bs i k)) a x)).data.size = 256
        have := turn_length (bytesOf (F.bs i k)) a x
        have h3 := unhide HBL
        simp [strOf, this, h3]
      · rw [ebs k c]; exact (unhide HI1).full i k hi hk h2
  have FN := hide finish
  clear finish ho hg hb4 hPg
  go_wp2
  go_ret
  exact ⟨rfl, (unhide FN).1, (unhide FN).2⟩

theorem rspoil_all (H : IsRf w S hr gp gw cp cw pb cb bv F kp) (hS : ∀ k, S k → k < w.heap.size) (i j a x : Int) (x0 : 0 ≤ x) (x1 : x ≤ 255) :
    Calls Tryz.prog 28 #[P0 hr, .int .i64 i, .int .i64 j, .int .i64 a, .int .u8 x] w fun e w' => e = .returned (.int .i64 (F.spoil i j a x).1) ∧ IsRfE w' S hr gp gw cp cw (F.spoil i j a x).2 ∧ Upd (OnlyRf hr gp gw) w.heap.size w w' := by
  unfold Fl.spoil
  have same : ∀ er : Int, (Calls Tryz.prog 28 #[P0 hr, .int .i64 i, .int .i64 j, .int .i64 a, .int .u8 x] w fun e w' => e = .returned (.int .i64 er) ∧ Below w.heap.size w w') → Calls Tryz.prog 28 #[P0 hr, .int .i64 i, .int .i64 j, .int .i64 a, .int .u8 x] w fun e w' => e = .returned (.int .i64 er) ∧ IsRfE w' S hr gp gw cp cw F ∧ Upd (OnlyRf hr gp gw) w.heap.size w w' := fun er h => h.mono (by
    rintro e w' ⟨rfl, hb⟩
    exact ⟨rfl, ⟨pb, cb, bv, kp, H.below hb⟩, Upd.of hb⟩)
  by_cases hd : F.down = true
  · rw [if_pos hd]; exact same 7 (rspoil_err H i j a x 7 (by unfold Fl.look; rw [if_pos hd]) (by decide))
  rw [if_neg hd]
  by_cases hw : F.within i j
  · rw [if_neg (not_not_intro hw)]
    have hlk : F.look i j = 0 := by unfold Fl.look; rw [if_neg hd, if_pos hw]
    obtain ⟨h1, h2, h3, h4⟩ := hw
    obtain ⟨i, rfl⟩ := nat_of h1
    obtain ⟨j, rfl⟩ := nat_of h3
    have hi : i < F.n := by omega
    have hj : j < 16 := by omega
    simp only [Int.toNat_natCast]
    by_cases ha : 0 ≤ a ∧ a < 256
    · rw [if_neg (not_not_intro ha)]
      obtain ⟨a, rfl⟩ := nat_of ha.1
      rw [Int.toNat_natCast]
      by_cases hs : F.st i j = 2
      · rw [if_pos hs]
        exact rspoil_ok H hS i j a x hi hj hlk (by omega) x0 x1 hs
      · rw [if_neg hs]
        exact same _ (rspoil_not H i j a x hi hj hlk (by omega) hs)
    · rw [if_pos ha]; exact same 1 (rspoil_arg H i j a x hlk ha)
  · rw [if_pos hw]; exact same 1 (rspoil_err H i j a x 1 (by unfold Fl.look; rw [if_neg hd, if_neg hw]) (by decide))

end Go.Proofs.YtiijbklaapaheaaGreat

/- Which pages are not blank: lists and counts; the document's Used and All. -/
namespace Go.Proofs.YtiijbklaapaheaaGreat
open Go.RowKit
set_option maxRecDepth 100000

variable {w : World} {S : Nat → Prop} {hr gp gw cp cw : Nat} {pb cb : Nat → Nat} {bv : Nat → Nat → Value} {F : Fl} {kp : Int}


set_option maxRecDepth 100000 in
set_option maxHeartbeats 1600000 in
theorem rused_any (H : IsRf w S hr gp gw cp cw pb cb bv F kp) (i : Int) :
    Calls Tryz.prog 33 #[P0 hr, .int .i64 i] w fun e w' => e = .returned (.int .i64 (F.usedE i)) ∧ w = w' := by
  have h0 := H.c0; have h3 := H.fitp
  unfold Fl.usedE
  by_cases hi : 0 ≤ i ∧ i < F.n
  · rw [if_pos hi]
    obtain ⟨i, rfl⟩ := nat_of hi.1
    obtain ⟨a1, a2⟩ := hi
    have hi : i < F.n := by omega
    have h1 := H.page i hi; have h2 := H.room i hi
    have HC := hide (H.cells i hi)
    rw [Int.toNat_natCast]
    clear H
    go_enter Tryz.func33, Tryz.ntmps33
    go_wp2
    go_loop [5, 6] (fun n c => ∃ k : Nat, k ≤ 16 ∧ c = .int .i64 k ∧ n = .int .i64 ((rowU (F.st i) i k).length : Int)) (fun _ c => 16 - (intOf c).toNat)
    case atStart => exact ⟨0, by omega, rfl, rfl⟩
    case round =>
      obtain ⟨k, hk, rfl, rfl⟩ := hrel
      have hle := rowU_le (F.st i) i k
      by_cases hlt : k < 16
      · obtain ⟨p0, _, _⟩ := unhide HC k hlt
        by_cases hs : F.st i k = 0
        · have hb : decide (F.st i k ≠ 0) = false := by simpa using hs
          have HR : Hid (rowU (F.st i) i (k + 1) = rowU (F.st i) i k) := by show rowU _ _ k ++ (if _ then _ else _) = _; rw [if_neg (not_not_intro hs)]; simp
          rw [hb] at p0
          clear hb hs
          go_wp2
          go_round
          case rel => exact ⟨k + 1, by omega, by go_num, by rw [unhide HR]⟩
          case measure => simp [intOf]; omega
        · have hb : decide (F.st i k ≠ 0) = true := by simpa using hs
          have HR : Hid ((rowU (F.st i) i (k + 1)).length = (rowU (F.st i) i k).length + 1) := by show (rowU _ _ k ++ (if _ then _ else _)).length = _; rw [if_pos hs]; simp
          rw [hb] at p0
          clear hb hs
          go_wp2
          go_round
          case rel => exact ⟨k + 1, by omega, by go_num, by rw [unhide HR]; go_num⟩
          case measure => simp [intOf]; omega
      · obtain rfl : k = 16 := by omega
        go_wp2
        go_ret
        exact ⟨rfl, rfl⟩
  · rw [if_neg hi]
    clear H
    by_cases a1 : i < 0
    · clear hi
      go_enter Tryz.func33, Tryz.ntmps33
      go_wp2
      refine wp_loop_rounds 1 ?_
      rw [rounds_succ]
      go_wp2
      go_ret
      exact ⟨rfl, rfl⟩
    · have a2 : (F.n : Int) ≤ i := by omega
      clear hi
      go_enter Tryz.func33, Tryz.ntmps33
      go_wp2
      refine wp_loop_rounds 1 ?_
      rw [rounds_succ]
      go_wp2
      go_ret
      exact ⟨rfl, rfl⟩

theorem own_shape2 {w : World} {base e size : Nat} {v : Value} {n : Nat} {xs : List Value} (h : w.ownsRow base e size v n xs) : ∃ ao cap, v = .slice ao n cap := by
  rcases h.2 with ⟨rfl, rfl⟩ | ⟨g, cap, cur, rfl, _⟩
  · exact ⟨none, 0, rfl⟩
  · exact ⟨_, cap, rfl⟩

theorem own_base {w : World} {base e size : Nat} {v : Value} {n : Nat} {xs : List Value} (h : w.ownsRow base e size v n xs) : ∀ k, v.ownBlock = some k → base ≤ k := by
  rcases h.2 with ⟨rfl, rfl⟩ | ⟨g, cap, cur, rfl, hg, _⟩
  · intro k hk; simp [Value.ownBlock] at hk
  · intro k hk; simp [Value.ownBlock] at hk; omega

end Go.Proofs.YtiijbklaapaheaaGreat
