/- Several texts as one. -/
import Derived.Test.YtiijbklaapaheaaGreatF3
import Derived.Test.YtiijbklaapaheaaGreatKK

/- The document's flash: a block's pages copied, turned and put in place; Program. -/
namespace Go.Proofs.YtiijbklaapaheaaGreat
open Go.RowKit
set_option maxRecDepth 100000

variable {w : World} {S : Nat → Prop} {hr gp gw cp cw : Nat} {pb cb : Nat → Nat} {bv : Nat → Nat → Value} {F : Fl} {kp : Int}

def pgCell (st : Nat → Int) (bv : Nat → Value) (t : Nat) : Value := if t % 3 = 0 then .bool (decide (st (t / 3) ≠ 0)) else if t % 3 = 1 then .bool (decide (st (t / 3) = 1)) else bv (t / 3)
def pgCells (st : Nat → Int) (bv : Nat → Value) : List Value := (List.range 48).map (pgCell st bv)
theorem pgCells_length (st : Nat → Int) (bv : Nat → Value) : (pgCells st bv).length = 48 := by simp [pgCells]
theorem pgCells_at (st : Nat → Int) (bv : Nat → Value) (t : Nat) (h : t < 48) : (pgCells st bv)[t]? = some (pgCell st bv t) := by
  unfold pgCells
  rw [List.getElem?_map, List.getElem?_range h]
  rfl
theorem pgCell_0 (st : Nat → Int) (bv : Nat → Value) (j : Nat) : pgCell st bv (j * 3) = .bool (decide (st j ≠ 0)) := by
  unfold pgCell; rw [if_pos (by omega), show j * 3 / 3 = j by omega]
theorem pgCell_1 (st : Nat → Int) (bv : Nat → Value) (j : Nat) : pgCell st bv (j * 3 + 1) = .bool (decide (st j = 1)) := by
  unfold pgCell; rw [if_neg (by omega), if_pos (by omega), show (j * 3 + 1) / 3 = j by omega]
theorem pgCell_2 (st : Nat → Int) (bv : Nat → Value) (j : Nat) : pgCell st bv (j * 3 + 2) = bv j := by
  unfold pgCell; rw [if_neg (by omega), if_neg (by omega), show (j * 3 + 2) / 3 = j by omega]
theorem PgAt.at {w : World} {b : Nat} {st : Nat → Int} {bv : Nat → Value} (h : PgAt w b st bv) (t : Nat) (ht : t < 48) : w.cell? ⟨b, t, none⟩ = some (pgCell st bv t) := by
  obtain ⟨j, r, rfl, hr⟩ : ∃ j r, t = j * 3 + r ∧ r < 3 := ⟨t / 3, t % 3, by omega, by omega⟩
  obtain ⟨h0, h1, h2⟩ := h j (by omega)
  rcases (show r = 0 ∨ r = 1 ∨ r = 2 by omega) with rfl | rfl | rfl
  · rw [Nat.add_zero, pgCell_0]; exact h0
  · rw [pgCell_1]; exact h1
  · rw [pgCell_2]; exact h2
theorem pgCells_one (st : Nat → Int) (bv : Nat → Value) (hs : ∀ j, j < 16 → ∃ a l c, bv j = .slice a l c) : ∀ u ∈ pgCells st bv, u.oneCell' = true := by
  intro u hu
  simp only [pgCells, List.mem_map, List.mem_range] at hu
  obtain ⟨t, ht, rfl⟩ := hu
  unfold pgCell
  split
  · rfl
  · split
    · rfl
    · obtain ⟨a, l, c, e⟩ := hs (t / 3) (by omega)
      rw [e]; rfl

theorem Tryz.info67 : (Tryz.prog.info? 67).map (fun i => (i.zero, i.size, i.bytes)) = some (some (.agg #[.bool false, .bool false, .slice none 0 0]), 3, 32) := by kernel_rfl

/-- What a copied block of pages is. -/
theorem own_pages {w2 : World} {B : Nat} {v : Value} {st : Nat → Int} {bv : Nat → Value} (ho : w2.ownsRow B 67 3 v 16 (pgCells st bv)) :
    ∃ pl cpl, v = .slice (some ⟨pl, 0, none⟩) 16 cpl ∧ 16 ≤ cpl ∧ B ≤ pl ∧ PgAt w2 pl st bv ∧ ∀ o, w2.frozen? ⟨pl, o, none⟩ = false := by
  have ho' := ho
  rcases ho'.2 with ⟨_, h0⟩ | ⟨pl, cpl, cur, rfl, hB, hh, hcap, _⟩
  · omega
  have cell : ∀ t v, (pgCells st bv)[t]? = some v → w2.cell? ⟨pl, t, none⟩ = some v := fun t v h => by
    have := ho.cells (g := pl) rfl t v h
    have hadd : (⟨pl, 0, none⟩ : Addr).add t = ⟨pl, t, none⟩ := by unfold Addr.add; split <;> simp_all
    rw [hadd] at this
    exact this
  refine ⟨pl, cpl, rfl, hcap, hB, fun j hj => ⟨?_, ?_, ?_⟩, fun o => ho.frozenAt o⟩
  · rw [← pgCell_0 st bv]; exact cell _ _ (pgCells_at st bv _ (by omega))
  · rw [← pgCell_1 st bv]; exact cell _ _ (pgCells_at st bv _ (by omega))
  · rw [← pgCell_2 st bv]; exact cell _ _ (pgCells_at st bv _ (by omega))

theorem PgAt.keep {w w' : World} {b : Nat} {st : Nat → Int} {bv : Nat → Value} (h : PgAt w b st bv) (hb : w'.heap[b]? = w.heap[b]?) : PgAt w' b st bv := by
  intro j hj
  have c : ∀ o, w'.cell? ⟨b, o, none⟩ = w.cell? ⟨b, o, none⟩ := fun o => World.cell?_of_block (w := w) hb
  rw [c, c, c]; exact h j hj

/-- One page of a block is turned. -/
theorem PgAt.set {w : World} {b : Nat} {st : Nat → Int} {bv : Nat → Value} (h : PgAt w b st bv) (j : Nat) (hj : j < 16) (s : Int) (v : Value) :
    PgAt (((w.setCell ⟨b, j * 3, none⟩ (.bool (decide (s ≠ 0)))).setCell ⟨b, j * 3 + 1, none⟩ (.bool (decide (s = 1)))).setCell ⟨b, j * 3 + 2, none⟩ v) b (fun k => if k = j then s else st k) (fun k => if k = j then v else bv k) := by
  intro k hk
  by_cases c : k = j
  · subst c
    obtain ⟨h0, h1, h2⟩ := h k hk
    simp only [if_true]
    refine ⟨?_, ?_, ?_⟩
    · rw [cs_other (addr_ne (Or.inr (by omega))), cs_other (addr_ne (Or.inr (by omega)))]; exact cs_same h0
    · rw [cs_other (addr_ne (Or.inr (by omega)))]; exact cs_same ((cs_other (addr_ne (Or.inr (by omega)))).trans h1)
    · exact cs_same ((cs_other (addr_ne (Or.inr (by omega)))).trans ((cs_other (addr_ne (Or.inr (by omega)))).trans h2))
  · simp only [if_neg c]
    have cc : ∀ o, o ≠ j * 3 → o ≠ j * 3 + 1 → o ≠ j * 3 + 2 → (((w.setCell ⟨b, j * 3, none⟩ (.bool (decide (s ≠ 0)))).setCell ⟨b, j * 3 + 1, none⟩ (.bool (decide (s = 1)))).setCell ⟨b, j * 3 + 2, none⟩ v).cell? ⟨b, o, none⟩ = w.cell? ⟨b, o, none⟩ := fun o a1 a2 a3 => by
      rw [cs_other (addr_ne (Or.inr a3.symm)), cs_other (addr_ne (Or.inr a2.symm)), cs_other (addr_ne (Or.inr a1.symm))]
    rw [cc _ (by omega) (by omega) (by omega), cc _ (by omega) (by omega) (by omega), cc _ (by omega) (by omega) (by omega)]
    exact h k hk

/-- A block of pages is put in place. -/
theorem IsRf.install (H : IsRf w S hr gp gw cp cw pb cb bv F kp) {w' : World} (hu : Upd (fun k => k = gp) w.heap.size w w') (hfr : ∀ o, w'.frozen? ⟨gp, o, none⟩ = false) (hS : ∀ k, S k → k < w.heap.size) (i : Nat) (hi : i < F.n) (pl cpl : Nat) (hroom : 16 ≤ cpl) (hpl : w.heap.size ≤ pl)
    (hci : w'.cell? ⟨gp, i, none⟩ = some (.slice (some ⟨pl, 0, none⟩) 16 cpl)) (hco : ∀ k, k ≠ i → w'.cell? ⟨gp, k, none⟩ = w.cell? ⟨gp, k, none⟩) (F' : Fl) (hn : F'.n = F.n) (hwe : F'.wear = F.wear) (hcn : F'.cnt = F.cnt) (hke : F'.keep = F.keep) (hdo : F'.down = F.down)
    (hst : ∀ k, k ≠ i → F'.st k = F.st k) (hbs : ∀ k, k ≠ i → F'.bs k = F.bs k) (bn : Nat → Value) (hcells : PgAt w' pl (F'.st i) bn) (hshape : ∀ j, j < 16 → ∃ a l c, bn j = .slice a l c)
    (hbytes : ∀ j, j < 16 → F'.st i j = 2 → SeesA (Three hr gp gw S) w' (bn j) (bytesOf (F'.bs i j))) (hfull : ∀ j, j < 16 → F'.st i j = 2 → (F'.bs i j).size = 256) (hok : ∀ j, j < 16 → F'.st i j = 0 ∨ F'.st i j = 1 ∨ F'.st i j = 2) :
    IsRf w' S hr gp gw cp cw (fun k => if k = i then pl else pb k) (fun k => if k = i then cpl else cb k) (fun k => if k = i then bn else bv k) F' kp := by
  obtain ⟨l1, l2, l3, l4⟩ := H.rlt
  have cc : ∀ b o, b < w.heap.size → b ≠ gp → w'.cell? ⟨b, o, none⟩ = w.cell? ⟨b, o, none⟩ := fun b o hb hne => hu.cell (p := ⟨b, o, none⟩) hb hne
  have ff : ∀ b o, b < w.heap.size → b ≠ gp → w'.frozen? ⟨b, o, none⟩ = w.frozen? ⟨b, o, none⟩ := fun b o hb hne => hu.frozen (p := ⟨b, o, none⟩) hb hne
  refine ⟨H.d1, H.d2, H.d3, H.s1, H.s2, H.s3, by rw [hn]; exact H.le, by rw [hn]; exact H.pos, by rw [hn]; exact H.fitp, by rw [hn]; exact H.fitw, ?_, ?_, ?_, ?_, ?_, fun o => by rw [ff _ _ l1 H.d1]; exact H.frR o, hfr, fun o => by rw [ff _ _ l3 H.d3.symm]; exact H.frW o,
    fun k hk => ?_, fun k hk => ?_, fun k hk => ?_, fun k hk => ?_, fun k hk => ?_, fun k j hk hj => ?_, fun k j hk hj h2 => ?_, by rw [hcn, hke]; exact H.keep, by rw [hcn]; exact H.cnt0, by rw [hcn]; exact H.cnt1, fun k j hk hj h2 => ?_, fun k j hk hj => ?_⟩
  · rw [hn, cc _ _ l1 H.d1]; exact H.c0
  · rw [hn, cc _ _ l1 H.d1]; exact H.c1
  · rw [hcn, cc _ _ l1 H.d1]; exact H.c2
  · rw [cc _ _ l1 H.d1]; exact H.c3
  · rw [hdo, cc _ _ l1 H.d1]; exact H.c4
  · rw [hwe, cc _ _ l3 H.d3.symm]; exact H.wear k (hn ▸ hk)
  · by_cases c : k = i
    · subst c; simp only [if_true]; exact hci
    · simp only [if_neg c]; rw [hco k c]; exact H.page k (hn ▸ hk)
  · by_cases c : k = i
    · subst c; simp only [if_true]; exact hroom
    · simp only [if_neg c]; exact H.room k (hn ▸ hk)
  · by_cases c : k = i
    · subst c; simp only [if_true]
      rintro (e | e | e | e)
      · omega
      · omega
      · omega
      · have := hS _ e; omega
    · simp only [if_neg c]; exact H.away k (hn ▸ hk)
  · by_cases c : k = i
    · subst c; simp only [if_true]; exact hcells
    · simp only [if_neg c]
      rw [hst k c]
      intro j hj
      have hne : pb k ≠ gp := fun e => H.away k (hn ▸ hk) (Or.inr (Or.inl e))
      rw [cc _ _ (l4 k (hn ▸ hk)) hne, cc _ _ (l4 k (hn ▸ hk)) hne, cc _ _ (l4 k (hn ▸ hk)) hne]
      exact H.cells k (hn ▸ hk) j hj
  · by_cases c : k = i
    · subst c; simp only [if_true]; exact hshape j hj
    · simp only [if_neg c]; exact H.shape k j (hn ▸ hk) hj
  · by_cases c : k = i
    · subst c; simp only [if_true]; exact hbytes j hj h2
    · simp only [if_neg c]
      rw [hbs k c]
      rw [hst k c] at h2
      exact (H.bytes k j (hn ▸ hk) hj h2).upd hu (Nat.le_refl _) (fun k _ hnk c => hnk (Or.inr (Or.inl c)))
  · by_cases c : k = i
    · subst c; exact hfull j hj h2
    · rw [hbs k c]; rw [hst k c] at h2; exact H.full k j (hn ▸ hk) hj h2
  · by_cases c : k = i
    · subst c; exact hok j hj
    · rw [hst k c]; exact H.stOk k j (hn ▸ hk) hj

end Go.Proofs.YtiijbklaapaheaaGreat

/- The document's Program. -/
namespace Go.Proofs.YtiijbklaapaheaaGreat
open Go.RowKit
set_option maxRecDepth 100000

variable {w : World} {S : Nat → Prop} {hr gp gw cp cw : Nat} {pb cb : Nat → Nat} {bv : Nat → Nat → Value} {F : Fl} {kp : Int}

/-- The document's burn. -/
def Fl.burntR (F : Fl) : Fl := if F.cnt = 0 then F else if F.cnt = 1 then { F with cnt := 0, down := true } else { F with cnt := F.cnt - 1 }
theorem burntR_pg (F : Fl) : F.burntR.n = F.n ∧ F.burntR.st = F.st ∧ F.burntR.bs = F.bs ∧ F.burntR.wear = F.wear := by
  unfold Fl.burntR; (repeat' split) <;> exact ⟨rfl, rfl, rfl, rfl⟩

theorem rburn_any (H : IsRf w S hr gp gw cp cw pb cb bv F kp) :
    Calls Tryz.prog 51 #[P0 hr] w fun e w' => e = .returned (.bool (decide (F.cnt = 1))) ∧ IsRf w' S hr gp gw cp cw pb cb bv F.burntR kp ∧ Upd (OnlyRf hr gp gw) w.heap.size w w' := by
  unfold Fl.burntR
  by_cases c0 : F.cnt = 0
  · refine (rburn_no H c0).mono ?_
    rintro e w' ⟨rfl, rfl⟩
    rw [if_pos c0]
    exact ⟨ret_bool (by simp [c0]), H, Upd.refl _ _ _⟩
  rw [if_neg c0]
  by_cases c1 : F.cnt = 1
  · refine (rburn_one H c1).mono ?_
    rintro e w' ⟨rfl, a, b⟩
    rw [if_pos c1]
    exact ⟨ret_bool (by simp [c1]), a, b⟩
  · have := H.cnt0
    refine (rburn_more H (by omega)).mono ?_
    rintro e w' ⟨rfl, a, b⟩
    rw [if_neg c1]
    exact ⟨ret_bool (by simp [c1]), a, b⟩

/-- There is a flash of the document's, whatever its blocks of pages. -/
def IsRfE (w : World) (S : Nat → Prop) (hr gp gw cp cw : Nat) (F : Fl) : Prop := ∃ pb cb bv kp, IsRf w S hr gp gw cp cw pb cb bv F kp

theorem onlyR_gp {a b : World} {N : Nat} (h : Upd (fun k => k = gp) N a b) : Upd (OnlyRf hr gp gw) N a b := h.mono (Nat.le_refl _) (fun _ _ c => Or.inr (Or.inl c))

theorem seesA_new {Av : Nat → Prop} {w w' : World} {v : Value} {zs : List Int} (hs : Sees w' .u8 v zs) (hv : ∀ a l c, v = .slice (some a) l c → w.heap.size ≤ a.block) (hA : ∀ k, Av k → k < w.heap.size) : SeesA Av w' v zs :=
  ⟨hs, fun a l c e d => by have := hv a l c e; have := hA _ d; omega⟩

/-- Full, and that it lies in new memory. -/
theorem full_own (bv : Value) (zs : List Int) (w : World) (hs : Sees w .u8 bv zs) (hl : zs.length ≤ 256) :
    Calls Tryz.prog 55 #[bv] w fun e w' => ∃ af cpf, e = .returned (.slice af 256 cpf) ∧ Sees w' .u8 (.slice af 256 cpf) (pageL zs) ∧ (∀ a l c, (Value.slice af 256 cpf) = .slice (some a) l c → w.heap.size ≤ a.block) ∧ Below w.heap.size w w' := by
  refine (full_any' bv zs w hs hl).mono ?_
  rintro e w' ⟨x, rfl, ho, hb⟩
  obtain ⟨af, cpf, rfl⟩ := own_shape ho
  refine ⟨af, cpf, rfl, (sees_of_own ho).2, fun a l c e => ?_, hb⟩
  simp only [Value.slice.injEq] at e
  obtain ⟨rfl, _, _⟩ := e
  rcases ho.2 with ⟨h, _⟩ | ⟨g, cap, cur, h, hg, _⟩
  · cases h
  · simp only [Value.slice.injEq, Option.some.injEq] at h
    rw [h.1]; exact hg

set_option maxRecDepth 100000 in
set_option maxHeartbeats 3200000 in
theorem rprog_put (H : IsRf w S hr gp gw cp cw pb cb bv F kp) (hS : ∀ k, S k → k < w.heap.size) (i j : Nat) (hi : i < F.n) (hj : j < 16) (hd : F.down = false) (hs : F.st i j = 0) (xv : Value) (zs : List Int) (hz : Sees w .u8 xv zs) (hzA : ∀ a l c, xv = .slice (some a) l c → zs ≠ [] → ¬ OnlyRf hr gp gw a.block) (hby : Byt zs) (hl : zs.length ≤ 256)
    (went : Bool) (F1 : Fl) (HBn : Calls Tryz.prog 51 #[P0 hr] w fun e w' => e = .returned (.bool went) ∧ IsRf w' S hr gp gw cp cw pb cb bv F1 kp ∧ Upd (OnlyRf hr gp gw) w.heap.size w w') (hi1 : i < F1.n) (hmode : went = false ∨ kp % 3 = 2) :
    Calls Tryz.prog 26 #[P0 hr, .int .i64 i, .int .i64 j, xv] w fun e w' => e = .returned (.int .i64 (if went then 7 else 0)) ∧ IsRfE w' S hr gp gw cp cw (F1.put i j 2 (strOf (pageL zs))) ∧ Upd (OnlyRf hr gp gw) w.heap.size w w' := by
  obtain ⟨i0, hi0, hz0, hz1, hz2⟩ := info_parts Tryz.info67
  have hlk : F.look i j = 0 := by
    unfold Fl.look; rw [hd, if_neg (by decide), if_pos ⟨by omega, by omega, by omega, by omega⟩]
  have HL := hide (look_any H i j)
  rw [hlk] at HL
  have HB := hide HBn
  have h0 := H.c0; have h1 := H.page i hi; have h2 := H.room i hi; have h3 := H.fitp
  obtain ⟨k0, _, _⟩ := H.cells i hi j hj
  rw [hs] at k0
  simp at k0
  obtain ⟨ao, cpx, rfl, hlc, hnil, hcl⟩ := id hz
  have HZ := hide hz
  have HZA := hide hzA
  clear H HBn hz hzA hcl hlk
  go_enter Tryz.func26, Tryz.ntmps26
  go_wp2_with fail
  refine (unhide HL).mono ?_
  rintro e w1 ⟨rfl, rfl⟩
  go_wp2_with fail
  refine (unhide HB).mono ?_
  rintro e w1 ⟨rfl, hI1, hU1⟩
  have HI1 := hide hI1
  have HU1 := hide hU1
  have g0 := hI1.c0; have g1 := hI1.page i hi1; have g2 := hI1.room i hi1; have g3 := hI1.fitp; have g4 := hI1.c3
  have hl1 := hU1.size
  clear hI1 hU1 h0 h1 k0 HL HB
  go_wp2_with (at_builtin; refine wpList_append_own _ rfl _ _ 50 rfl w1.heap.size 67 i0 (.agg #[.bool false, .bool false, .slice none 0 0]) 3 32 Tryz.underlying50 hi0 hz0 hz1 hz2 rfl (by decide) _ 0 [] rfl (World.ownsRow_nil _ _ _ _) ⟨pb i, 0, none⟩ 16 (cb i) (pgCells (F1.st i) (bv i)) rfl (by rw [pgCells_length]) ?d0 (pgCells_one _ _ (fun j hj => (unhide HI1).shape i j hi1 hj)) ?d1 ?d2 ?d3 ?_)
  case d0 =>
    intro t u hu
    have ht : t < 48 := by have := (List.getElem?_eq_some_iff.1 hu).1; rw [pgCells_length] at this; exact this
    rw [pgCells_at _ _ t ht] at hu
    have hadd : (⟨pb i, 0, none⟩ : Addr).add t = ⟨pb i, t, none⟩ := by unfold Addr.add; split <;> simp_all
    rw [hadd, ((unhide HI1).cells i hi1).at t ht, hu]
  case d1 => unfold maxLen; omega
  case d2 => omega
  case d3 => exact Nat.le_refl _
  intro lv w2 ho hg _
  have hb2 : Below w1.heap.size w1 w2 := (Below.refl _ _).grown hg (Nat.le_refl _) (fun k hk => by simp [Value.ownBlock] at hk)
  obtain ⟨pl, cpl, rfl, hcpl, hpl, hPg, hfr⟩ := own_pages (st := F1.st i) (bv := bv i) (by simpa using ho)
  have HI2 := hide ((unhide HI1).below hb2)
  have HB2 := hide hb2
  have hplt : pl < w2.heap.size := World.block_lt_of_cell? w2 _ (hPg 0 (by omega)).1
  have HPg := hide hPg
  have hl2 := hb2.size
  have f0 := (unhide HI2).c0; have f1 := (unhide HI2).page i hi1; have f3 := (unhide HI2).c3; have f4 := (unhide HI2).frP
  obtain ⟨p0, p1, p2⟩ := hPg j hj
  have hrl := (unhide HI1).rlt
  obtain ⟨r1, r2, r3, _⟩ := hrl
  clear ho hg hb2 hPg g0 g1 g4
  have HZ2 : Hid (Sees w2 .u8 (.slice ao zs.length cpx) zs) := by
    have hu : Upd (OnlyRf hr gp gw) w.heap.size w w2 := (unhide HU1).trans ((Upd.of (unhide HB2)).less hl1)
    by_cases hzn : zs = []
    · obtain ⟨ao', cap', e', hl', hn', _⟩ := unhide HZ
      exact ⟨ao', cap', e', hl', hn', fun _ _ t ht => absurd ht (by rw [hzn]; exact Nat.not_lt_zero _)⟩
    · exact (SeesA.upd (Av := OnlyRf hr gp gw) ⟨unhide HZ, fun a l c e => unhide HZA a l c e hzn⟩ hu (Nat.le_refl _) (fun k _ h => h)).1
  have HF := hide (full_own _ zs w2 (unhide HZ2) hl)
  have HH := hide (how_any kp w2)
  have finish : ∀ (w3 : World) (xf : Value) (cpf : Nat) (af : Option Addr), xf = .slice af 256 cpf → Sees w3 .u8 xf (pageL zs) → (∀ a l c, xf = .slice (some a) l c → w2.heap.size ≤ a.block) → Below w2.heap.size w2 w3 →
      IsRfE ((((w3.setCell ⟨pl, j * 3, none⟩ (.bool true)).setCell ⟨pl, j * 3 + 1, none⟩ (.bool false)).setCell ⟨pl, j * 3 + 2, none⟩ xf).setCell ⟨gp, i, none⟩ (.slice (some ⟨pl, 0, none⟩) 16 cpl)) S hr gp gw cp cw (F1.put i j 2 (strOf (pageL zs))) ∧ Upd (OnlyRf hr gp gw) w.heap.size w ((((w3.setCell ⟨pl, j * 3, none⟩ (.bool true)).setCell ⟨pl, j * 3 + 1, none⟩ (.bool false)).setCell ⟨pl, j * 3 + 2, none⟩ xf).setCell ⟨gp, i, none⟩ (.slice (some ⟨pl, 0, none⟩) 16 cpl)) := by
    intro w3 xf cpf af hxf hsf hnew hb3
    have hu : Upd (fun k => k = gp) w1.heap.size w1 ((((w3.setCell ⟨pl, j * 3, none⟩ (.bool true)).setCell ⟨pl, j * 3 + 1, none⟩ (.bool false)).setCell ⟨pl, j * 3 + 2, none⟩ xf).setCell ⟨gp, i, none⟩ (.slice (some ⟨pl, 0, none⟩) 16 cpl)) :=
      (((((Upd.of (S := fun k => k = gp) (unhide HB2)).trans ((Upd.of hb3).less hl2)).setCell (p := ⟨pl, j * 3, none⟩) (Or.inr hpl) _).setCell (p := ⟨pl, j * 3 + 1, none⟩) (Or.inr hpl) _).setCell (p := ⟨pl, j * 3 + 2, none⟩) (Or.inr hpl) _).setCell (p := ⟨gp, i, none⟩) (Or.inl rfl) _
    have hne : pl ≠ gp := by omega
    have gpc : ∀ o, w3.cell? ⟨gp, o, none⟩ = w1.cell? ⟨gp, o, none⟩ := fun o => (hb3.cell (p := ⟨gp, o, none⟩) (by show gp < _; omega)).trans ((unhide HB2).cell (p := ⟨gp, o, none⟩) r2)
    have gpf : ∀ o, w3.frozen? ⟨gp, o, none⟩ = false := fun o => (hb3.frozen (p := ⟨gp, o, none⟩) (by show gp < _; omega)).trans (f4 o)
    refine ⟨⟨_, _, _, kp, (unhide HI1).install hu (fun o => by simp only [World.frozen?_setCell]; exact gpf o) (fun k hk => by have := hS k hk; omega) i hi1 pl cpl hcpl hpl ?_ (fun k hk => ?_) (F1.put i j 2 (strOf (pageL zs))) rfl rfl rfl rfl rfl (fun k hk => ?_) (fun k hk => ?_) (fun k => if k = j then xf else bv i k) ?_ (fun k hk => ?_) (fun k hk h2 => ?_) (fun k hk h2 => ?_) (fun k hk => ?_)⟩, (unhide HU1).trans ((onlyR_gp hu).less hl1)⟩
    · refine cs_same (u := .slice (some ⟨pb i, 0, none⟩) 16 (cb i)) ?_
      rw [cs_other (addr_ne (Or.inl hne)), cs_other (addr_ne (Or.inl hne)), cs_other (addr_ne (Or.inl hne)), gpc]
      exact (unhide HI1).page i hi1
    · rw [cs_other (addr_ne (Or.inr hk.symm)), cs_other (addr_ne (Or.inl hne)), cs_other (addr_ne (Or.inl hne)), cs_other (addr_ne (Or.inl hne)), gpc]
    · funext k'; show (if k = i ∧ k' = j then _ else _) = _; rw [if_neg (fun c => hk c.1)]
    · funext k'; show (if k = i ∧ k' = j then _ else _) = _; rw [if_neg (fun c => hk c.1)]; rfl
    · have hp3 : PgAt w3 pl (F1.st i) (bv i) := (unhide HPg).keep (hb3.block pl hplt)
      have := (hp3.set j hj 2 xf).keep (w' := (((w3.setCell ⟨pl, j * 3, none⟩ (.bool true)).setCell ⟨pl, j * 3 + 1, none⟩ (.bool false)).setCell ⟨pl, j * 3 + 2, none⟩ xf).setCell ⟨gp, i, none⟩ (.slice (some ⟨pl, 0, none⟩) 16 cpl)) (Below.heap_setCell _ _ _ _ hne)
      have e : (F1.put i j 2 (strOf (pageL zs))).st i = fun k => if k = j then 2 else F1.st i k := by funext k; show (if i = i ∧ k = j then _ else _) = _; by_cases c : k = j <;> simp [c]
      rw [e]
      exact this
    · by_cases c : k = j
      · exact ⟨_, _, _, by rw [if_pos c]; exact hxf⟩
      · rw [if_neg c]; exact (unhide HI1).shape i k hi1 hk
    · by_cases c : k = j
      · subst c
        have e : (F1.put i k 2 (strOf (pageL zs))).bs i k = strOf (pageL zs) := by show (if i = i ∧ k = k then _ else _) = _; rw [if_pos ⟨rfl, rfl⟩]
        rw [if_pos rfl, e, bytesOf_strOf (pageL_byt hby)]
        have hsz : ∀ x, Three hr gp gw S x → x < w2.heap.size := by
          rintro x (c | c | c | c)
          · omega
          · omega
          · omega
          · have := hS x c; omega
        have s1 : SeesA (fun x => x < w2.heap.size ∨ x = pl) w3 xf (pageL zs) := ⟨hsf, fun a l c e d => by
          have h1 := hnew a l c e
          rcases d with d | d <;> omega⟩
        have hu3 : Upd (fun x => x < w2.heap.size ∨ x = pl) w3.heap.size w3 ((((w3.setCell ⟨pl, k * 3, none⟩ (.bool true)).setCell ⟨pl, k * 3 + 1, none⟩ (.bool false)).setCell ⟨pl, k * 3 + 2, none⟩ xf).setCell ⟨gp, i, none⟩ (.slice (some ⟨pl, 0, none⟩) 16 cpl)) :=
          ((((Upd.refl (fun x => x < w2.heap.size ∨ x = pl) w3.heap.size w3).setCell (p := ⟨pl, k * 3, none⟩) (Or.inl (Or.inr rfl)) _).setCell (p := ⟨pl, k * 3 + 1, none⟩) (Or.inl (Or.inr rfl)) _).setCell (p := ⟨pl, k * 3 + 2, none⟩) (Or.inl (Or.inr rfl)) _).setCell (p := ⟨gp, i, none⟩) (Or.inl (Or.inl (by show gp < _; omega))) _
        have s2 := s1.upd hu3 (Nat.le_refl _) (fun x _ h => h)
        exact ⟨s2.1, fun a l c e d => by have := hsz _ d; have := hnew a l c e; omega⟩
      · have e1 : (F1.put i j 2 (strOf (pageL zs))).bs i k = F1.bs i k := by show (if i = i ∧ k = j then _ else _) = _; rw [if_neg (fun d => c d.2)]; rfl
        have e2 : (F1.put i j 2 (strOf (pageL zs))).st i k = F1.st i k := by show (if i = i ∧ k = j then _ else _) = _; rw [if_neg (fun d => c d.2)]
        rw [if_neg c, e1]
        rw [e2] at h2
        exact ((unhide HI1).bytes i k hi1 hk h2).upd hu (Nat.le_refl _) (fun x _ h d => h (Or.inr (Or.inl d)))
    · by_cases c : k = j
      · subst c
        have e : (F1.put i k 2 (strOf (pageL zs))).bs i k = strOf (pageL zs) := by show (if i = i ∧ k = k then _ else _) = _; rw [if_pos ⟨rfl, rfl⟩]
        rw [e]
        have := pageL_length hl
        show (strOf (pageL zs)).data.size = 256
        simp [strOf, this]
      · have e1 : (F1.put i j 2 (strOf (pageL zs))).bs i k = F1.bs i k := by show (if i = i ∧ k = j then _ else _) = _; rw [if_neg (fun d => c d.2)]; rfl
        have e2 : (F1.put i j 2 (strOf (pageL zs))).st i k = F1.st i k := by show (if i = i ∧ k = j then _ else _) = _; rw [if_neg (fun d => c d.2)]
        rw [e1]
        rw [e2] at h2
        exact (unhide HI1).full i k hi1 hk h2
    · by_cases c : k = j
      · right; right; show (if i = i ∧ k = j then _ else _) = _; rw [if_pos ⟨rfl, c⟩]
      · have e2 : (F1.put i j 2 (strOf (pageL zs))).st i k = F1.st i k := by show (if i = i ∧ k = j then _ else _) = _; rw [if_neg (fun d => c d.2)]
        rw [e2]; exact (unhide HI1).stOk i k hi1 hk
  have FIN := hide finish
  clear finish HZ HZA HZ2
  cases went with
  | false =>
    go_wp2_with fail
    refine (unhide HF).mono ?_
    rintro e w3 ⟨af, cpf, rfl, hsf, hnew, hb3⟩
    have FN := hide (unhide FIN w3 _ cpf af rfl hsf hnew hb3)
    have q0 := (hb3.cell (p := ⟨hr, 0, none⟩) (by show hr < _; omega)).trans f0
    have q1 := (hb3.cell (p := ⟨gp, i, none⟩) (by show gp < _; omega)).trans f1
    have q2 := (hb3.cell (p := ⟨pl, j * 3, none⟩) hplt).trans p0
    have q3 := (hb3.cell (p := ⟨pl, j * 3 + 1, none⟩) hplt).trans p1
    have q4 := (hb3.cell (p := ⟨pl, j * 3 + 2, none⟩) hplt).trans p2
    have q5 : ∀ o, w3.frozen? ⟨pl, o, none⟩ = false := fun o => (hb3.frozen (p := ⟨pl, o, none⟩) hplt).trans (hfr o)
    have q6 : ∀ o, w3.frozen? ⟨gp, o, none⟩ = false := fun o => (hb3.frozen (p := ⟨gp, o, none⟩) (by show gp < _; omega)).trans (f4 o)
    have hne : pl ≠ gp := by omega
    have hne2 : pl ≠ hr := by omega
    clear hsf hnew hb3 f0 f1 p0 p1 p2 HF
    go_wp2
    go_ret
    exact ⟨rfl, (unhide FN).1, (unhide FN).2⟩
  | true =>
    have hk2 : kp % 3 = 2 := by rcases hmode with h | h; cases h; exact h
    rw [hk2] at HH
    go_wp2_with fail
    refine (unhide HH).mono ?_
    rintro e wq ⟨rfl, rfl⟩
    go_wp2_with fail
    refine (unhide HF).mono ?_
    rintro e w3 ⟨af, cpf, rfl, hsf, hnew, hb3⟩
    have FN := hide (unhide FIN w3 _ cpf af rfl hsf hnew hb3)
    have q0 := (hb3.cell (p := ⟨hr, 0, none⟩) (by show hr < _; omega)).trans f0
    have q1 := (hb3.cell (p := ⟨gp, i, none⟩) (by show gp < _; omega)).trans f1
    have q2 := (hb3.cell (p := ⟨pl, j * 3, none⟩) hplt).trans p0
    have q3 := (hb3.cell (p := ⟨pl, j * 3 + 1, none⟩) hplt).trans p1
    have q4 := (hb3.cell (p := ⟨pl, j * 3 + 2, none⟩) hplt).trans p2
    have q5 : ∀ o, w3.frozen? ⟨pl, o, none⟩ = false := fun o => (hb3.frozen (p := ⟨pl, o, none⟩) hplt).trans (hfr o)
    have q6 : ∀ o, w3.frozen? ⟨gp, o, none⟩ = false := fun o => (hb3.frozen (p := ⟨gp, o, none⟩) (by show gp < _; omega)).trans (f4 o)
    have hne : pl ≠ gp := by omega
    have hne2 : pl ≠ hr := by omega
    clear hsf hnew hb3 f0 f1 p0 p1 p2 HF hk2
    go_wp2
    go_ret
    exact ⟨rfl, (unhide FN).1, (unhide FN).2⟩

end Go.Proofs.YtiijbklaapaheaaGreat

/- The document's Program where the power goes within it; Program at whatever arguments. -/
namespace Go.Proofs.YtiijbklaapaheaaGreat
open Go.RowKit
set_option maxRecDepth 100000

variable {w : World} {S : Nat → Prop} {hr gp gw cp cw : Nat} {pb cb : Nat → Nat} {bv : Nat → Nat → Value} {F : Fl} {kp : Int}

set_option maxRecDepth 100000 in
set_option maxHeartbeats 3200000 in
theorem rprog_torn (H : IsRf w S hr gp gw cp cw pb cb bv F kp) (hS : ∀ k, S k → k < w.heap.size) (i j : Nat) (hi : i < F.n) (hj : j < 16) (hd : F.down = false) (hs : F.st i j = 0) (xv : Value) (zs : List Int) (hz : Sees w .u8 xv zs) (hzA : ∀ a l c, xv = .slice (some a) l c → zs ≠ [] → ¬ OnlyRf hr gp gw a.block) (_hby : Byt zs) (hl : zs.length ≤ 256)
    (went : Bool) (F1 : Fl) (HBn : Calls Tryz.prog 51 #[P0 hr] w fun e w' => e = .returned (.bool went) ∧ IsRf w' S hr gp gw cp cw pb cb bv F1 kp ∧ Upd (OnlyRf hr gp gw) w.heap.size w w') (hi1 : i < F1.n) (hmode : went = true ∧ kp % 3 = 1) :
    Calls Tryz.prog 26 #[P0 hr, .int .i64 i, .int .i64 j, xv] w fun e w' => e = .returned (.int .i64 (if went then 7 else 0)) ∧ IsRfE w' S hr gp gw cp cw (F1.put i j 1 ⟨#[]⟩) ∧ Upd (OnlyRf hr gp gw) w.heap.size w w' := by
  obtain ⟨i0, hi0, hz0, hz1, hz2⟩ := info_parts Tryz.info67
  have hlk : F.look i j = 0 := by
    unfold Fl.look; rw [hd, if_neg (by decide), if_pos ⟨by omega, by omega, by omega, by omega⟩]
  have HL := hide (look_any H i j)
  rw [hlk] at HL
  have HB := hide HBn
  have h0 := H.c0; have h1 := H.page i hi; have h2 := H.room i hi; have h3 := H.fitp
  obtain ⟨k0, _, _⟩ := H.cells i hi j hj
  rw [hs] at k0
  simp at k0
  obtain ⟨ao, cpx, rfl, hlc, hnil, hcl⟩ := id hz
  have HZ := hide hz
  have HZA := hide hzA
  clear H HBn hz hzA hcl hlk
  go_enter Tryz.func26, Tryz.ntmps26
  go_wp2_with fail
  refine (unhide HL).mono ?_
  rintro e w1 ⟨rfl, rfl⟩
  go_wp2_with fail
  refine (unhide HB).mono ?_
  rintro e w1 ⟨rfl, hI1, hU1⟩
  have HI1 := hide hI1
  have HU1 := hide hU1
  have g0 := hI1.c0; have g1 := hI1.page i hi1; have g2 := hI1.room i hi1; have g3 := hI1.fitp; have g4 := hI1.c3
  have hl1 := hU1.size
  clear hI1 hU1 h0 h1 k0 HL HB
  go_wp2_with (at_builtin; refine wpList_append_own _ rfl _ _ 50 rfl w1.heap.size 67 i0 (.agg #[.bool false, .bool false, .slice none 0 0]) 3 32 Tryz.underlying50 hi0 hz0 hz1 hz2 rfl (by decide) _ 0 [] rfl (World.ownsRow_nil _ _ _ _) ⟨pb i, 0, none⟩ 16 (cb i) (pgCells (F1.st i) (bv i)) rfl (by rw [pgCells_length]) ?d0 (pgCells_one _ _ (fun j hj => (unhide HI1).shape i j hi1 hj)) ?d1 ?d2 ?d3 ?_)
  case d0 =>
    intro t u hu
    have ht : t < 48 := by have := (List.getElem?_eq_some_iff.1 hu).1; rw [pgCells_length] at this; exact this
    rw [pgCells_at _ _ t ht] at hu
    have hadd : (⟨pb i, 0, none⟩ : Addr).add t = ⟨pb i, t, none⟩ := by unfold Addr.add; split <;> simp_all
    rw [hadd, ((unhide HI1).cells i hi1).at t ht, hu]
  case d1 => unfold maxLen; omega
  case d2 => omega
  case d3 => exact Nat.le_refl _
  intro lv w2 ho hg _
  have hb2 : Below w1.heap.size w1 w2 := (Below.refl _ _).grown hg (Nat.le_refl _) (fun k hk => by simp [Value.ownBlock] at hk)
  obtain ⟨pl, cpl, rfl, hcpl, hpl, hPg, hfr⟩ := own_pages (st := F1.st i) (bv := bv i) (by simpa using ho)
  have HI2 := hide ((unhide HI1).below hb2)
  have HB2 := hide hb2
  have hplt : pl < w2.heap.size := World.block_lt_of_cell? w2 _ (hPg 0 (by omega)).1
  have HPg := hide hPg
  have hl2 := hb2.size
  have f0 := (unhide HI2).c0; have f1 := (unhide HI2).page i hi1; have f3 := (unhide HI2).c3; have f4 := (unhide HI2).frP
  obtain ⟨p0, p1, p2⟩ := hPg j hj
  have hrl := (unhide HI1).rlt
  obtain ⟨r1, r2, r3, _⟩ := hrl
  clear ho hg hb2 hPg g0 g1 g4
  have HH := hide (how_any kp w2)
  obtain ⟨hwent, hk1⟩ := hmode
  subst hwent
  rw [hk1] at HH
  have hne : pl ≠ gp := by omega
  have hne2 : pl ≠ hr := by omega
  have finish : IsRfE ((((w2.setCell ⟨pl, j * 3, none⟩ (.bool true)).setCell ⟨pl, j * 3 + 1, none⟩ (.bool true)).setCell ⟨pl, j * 3 + 2, none⟩ (.slice none 0 0)).setCell ⟨gp, i, none⟩ (.slice (some ⟨pl, 0, none⟩) 16 cpl)) S hr gp gw cp cw (F1.put i j 1 ⟨#[]⟩) ∧ Upd (OnlyRf hr gp gw) w.heap.size w ((((w2.setCell ⟨pl, j * 3, none⟩ (.bool true)).setCell ⟨pl, j * 3 + 1, none⟩ (.bool true)).setCell ⟨pl, j * 3 + 2, none⟩ (.slice none 0 0)).setCell ⟨gp, i, none⟩ (.slice (some ⟨pl, 0, none⟩) 16 cpl)) := by
    have hu : Upd (fun k => k = gp) w1.heap.size w1 ((((w2.setCell ⟨pl, j * 3, none⟩ (.bool true)).setCell ⟨pl, j * 3 + 1, none⟩ (.bool true)).setCell ⟨pl, j * 3 + 2, none⟩ (.slice none 0 0)).setCell ⟨gp, i, none⟩ (.slice (some ⟨pl, 0, none⟩) 16 cpl)) :=
      ((((Upd.of (S := fun k => k = gp) (unhide HB2)).setCell (p := ⟨pl, j * 3, none⟩) (Or.inr hpl) _).setCell (p := ⟨pl, j * 3 + 1, none⟩) (Or.inr hpl) _).setCell (p := ⟨pl, j * 3 + 2, none⟩) (Or.inr hpl) _).setCell (p := ⟨gp, i, none⟩) (Or.inl rfl) _
    have gpc : ∀ o, w2.cell? ⟨gp, o, none⟩ = w1.cell? ⟨gp, o, none⟩ := fun o => (unhide HB2).cell (p := ⟨gp, o, none⟩) r2
    have est : (F1.put i j 1 ⟨#[]⟩).st i = fun k => if k = j then 1 else F1.st i k := by funext k; show (if i = i ∧ k = j then _ else _) = _; by_cases c : k = j <;> simp [c]
    have estk : ∀ k, (F1.put i j 1 ⟨#[]⟩).st i k = if k = j then 1 else F1.st i k := fun k => by rw [est]
    have ebs : ∀ k, k ≠ j → (F1.put i j 1 ⟨#[]⟩).bs i k = F1.bs i k := fun k c => by show (if i = i ∧ k = j then _ else _) = _; rw [if_neg (fun d => c d.2)]; rfl
    refine ⟨⟨_, _, _, kp, (unhide HI1).install hu (fun o => by simp only [World.frozen?_setCell]; exact f4 o) (fun k hk => by have := hS k hk; omega) i hi1 pl cpl hcpl hpl ?_ (fun k hk => ?_) (F1.put i j 1 ⟨#[]⟩) rfl rfl rfl rfl rfl (fun k hk => ?_) (fun k hk => ?_) (fun k => if k = j then .slice none 0 0 else bv i k) ?_ (fun k hk => ?_) (fun k hk h2 => ?_) (fun k hk h2 => ?_) (fun k hk => ?_)⟩, (unhide HU1).trans ((onlyR_gp hu).less hl1)⟩
    · refine cs_same (u := .slice (some ⟨pb i, 0, none⟩) 16 (cb i)) ?_
      rw [cs_other (addr_ne (Or.inl hne)), cs_other (addr_ne (Or.inl hne)), cs_other (addr_ne (Or.inl hne)), gpc]
      exact (unhide HI1).page i hi1
    · rw [cs_other (addr_ne (Or.inr hk.symm)), cs_other (addr_ne (Or.inl hne)), cs_other (addr_ne (Or.inl hne)), cs_other (addr_ne (Or.inl hne)), gpc]
    · funext k'; show (if k = i ∧ k' = j then _ else _) = _; rw [if_neg (fun c => hk c.1)]
    · funext k'; show (if k = i ∧ k' = j then _ else _) = _; rw [if_neg (fun c => hk c.1)]; rfl
    · have := ((unhide HPg).set j hj 1 (.slice none 0 0)).keep (w' := ((((w2.setCell ⟨pl, j * 3, none⟩ (.bool true)).setCell ⟨pl, j * 3 + 1, none⟩ (.bool true)).setCell ⟨pl, j * 3 + 2, none⟩ (.slice none 0 0)).setCell ⟨gp, i, none⟩ (.slice (some ⟨pl, 0, none⟩) 16 cpl))) (Below.heap_setCell _ _ _ _ hne)
      rw [est]
      exact this
    · by_cases c : k = j
      · exact ⟨_, _, _, by rw [if_pos c]⟩
      · rw [if_neg c]; exact (unhide HI1).shape i k hi1 hk
    · rw [estk] at h2
      by_cases c : k = j
      · rw [if_pos c] at h2; cases h2
      · rw [if_neg c] at h2
        rw [if_neg c, ebs k c]
        exact ((unhide HI1).bytes i k hi1 hk h2).upd hu (Nat.le_refl _) (fun x _ h d => h (Or.inr (Or.inl d)))
    · rw [estk] at h2
      by_cases c : k = j
      · rw [if_pos c] at h2; cases h2
      · rw [if_neg c] at h2
        rw [ebs k c]
        exact (unhide HI1).full i k hi1 hk h2
    · rw [estk]
      by_cases c : k = j
      · right; left; rw [if_pos c]
      · rw [if_neg c]; exact (unhide HI1).stOk i k hi1 hk
  have FN := hide finish
  clear finish HZ HZA hk1
  go_wp2_with fail
  refine (unhide HH).mono ?_
  rintro e wq ⟨rfl, rfl⟩
  go_wp2_with fail
  refine (unhide HH).mono ?_
  rintro e wq ⟨rfl, rfl⟩
  go_wp2
  go_ret
  exact ⟨rfl, (unhide FN).1, (unhide FN).2⟩

set_option maxRecDepth 100000 in
set_option maxHeartbeats 3200000 in
theorem rprog_none (H : IsRf w S hr gp gw cp cw pb cb bv F kp) (hS : ∀ k, S k → k < w.heap.size) (i j : Nat) (hi : i < F.n) (hj : j < 16) (hd : F.down = false) (hs : F.st i j = 0) (xv : Value) (zs : List Int) (hz : Sees w .u8 xv zs) (hzA : ∀ a l c, xv = .slice (some a) l c → zs ≠ [] → ¬ OnlyRf hr gp gw a.block) (_hby : Byt zs) (hl : zs.length ≤ 256)
    (went : Bool) (F1 : Fl) (HBn : Calls Tryz.prog 51 #[P0 hr] w fun e w' => e = .returned (.bool went) ∧ IsRf w' S hr gp gw cp cw pb cb bv F1 kp ∧ Upd (OnlyRf hr gp gw) w.heap.size w w') (hi1 : i < F1.n) (hmode : went = true ∧ kp % 3 = 0) :
    Calls Tryz.prog 26 #[P0 hr, .int .i64 i, .int .i64 j, xv] w fun e w' => e = .returned (.int .i64 (if went then 7 else 0)) ∧ IsRfE w' S hr gp gw cp cw F1 ∧ Upd (OnlyRf hr gp gw) w.heap.size w w' := by
  obtain ⟨i0, hi0, hz0, hz1, hz2⟩ := info_parts Tryz.info67
  have hlk : F.look i j = 0 := by
    unfold Fl.look; rw [hd, if_neg (by decide), if_pos ⟨by omega, by omega, by omega, by omega⟩]
  have HL := hide (look_any H i j)
  rw [hlk] at HL
  have HB := hide HBn
  have h0 := H.c0; have h1 := H.page i hi; have h2 := H.room i hi; have h3 := H.fitp
  obtain ⟨k0, _, _⟩ := H.cells i hi j hj
  rw [hs] at k0
  simp at k0
  obtain ⟨ao, cpx, rfl, hlc, hnil, hcl⟩ := id hz
  have HZ := hide hz
  have HZA := hide hzA
  clear H HBn hz hzA hcl hlk
  go_enter Tryz.func26, Tryz.ntmps26
  go_wp2_with fail
  refine (unhide HL).mono ?_
  rintro e w1 ⟨rfl, rfl⟩
  go_wp2_with fail
  refine (unhide HB).mono ?_
  rintro e w1 ⟨rfl, hI1, hU1⟩
  have HI1 := hide hI1
  have HU1 := hide hU1
  have g0 := hI1.c0; have g1 := hI1.page i hi1; have g2 := hI1.room i hi1; have g3 := hI1.fitp; have g4 := hI1.c3
  have hl1 := hU1.size
  clear hI1 hU1 h0 h1 k0 HL HB
  go_wp2_with (at_builtin; refine wpList_append_own _ rfl _ _ 50 rfl w1.heap.size 67 i0 (.agg #[.bool false, .bool false, .slice none 0 0]) 3 32 Tryz.underlying50 hi0 hz0 hz1 hz2 rfl (by decide) _ 0 [] rfl (World.ownsRow_nil _ _ _ _) ⟨pb i, 0, none⟩ 16 (cb i) (pgCells (F1.st i) (bv i)) rfl (by rw [pgCells_length]) ?d0 (pgCells_one _ _ (fun j hj => (unhide HI1).shape i j hi1 hj)) ?d1 ?d2 ?d3 ?_)
  case d0 =>
    intro t u hu
    have ht : t < 48 := by have := (List.getElem?_eq_some_iff.1 hu).1; rw [pgCells_length] at this; exact this
    rw [pgCells_at _ _ t ht] at hu
    have hadd : (⟨pb i, 0, none⟩ : Addr).add t = ⟨pb i, t, none⟩ := by unfold Addr.add; split <;> simp_all
    rw [hadd, ((unhide HI1).cells i hi1).at t ht, hu]
  case d1 => unfold maxLen; omega
  case d2 => omega
  case d3 => exact Nat.le_refl _
  intro lv w2 ho hg _
  have hb2 : Below w1.heap.size w1 w2 := (Below.refl _ _).grown hg (Nat.le_refl _) (fun k hk => by simp [Value.ownBlock] at hk)
  obtain ⟨pl, cpl, rfl, hcpl, hpl, hPg, hfr⟩ := own_pages (st := F1.st i) (bv := bv i) (by simpa using ho)
  have HI2 := hide ((unhide HI1).below hb2)
  have HB2 := hide hb2
  have hplt : pl < w2.heap.size := World.block_lt_of_cell? w2 _ (hPg 0 (by omega)).1
  have HPg := hide hPg
  have hl2 := hb2.size
  have f0 := (unhide HI2).c0; have f1 := (unhide HI2).page i hi1; have f3 := (unhide HI2).c3; have f4 := (unhide HI2).frP
  obtain ⟨p0, p1, p2⟩ := hPg j hj
  have hrl := (unhide HI1).rlt
  obtain ⟨r1, r2, r3, _⟩ := hrl
  clear ho hg hb2 hPg g0 g1 g4
  have HH := hide (how_any kp w2)
  obtain ⟨hwent, hk1⟩ := hmode
  subst hwent
  rw [hk1] at HH
  have hne : pl ≠ gp := by omega
  have finish : IsRfE (w2.setCell ⟨gp, i, none⟩ (.slice (some ⟨pl, 0, none⟩) 16 cpl)) S hr gp gw cp cw F1 ∧ Upd (OnlyRf hr gp gw) w.heap.size w (w2.setCell ⟨gp, i, none⟩ (.slice (some ⟨pl, 0, none⟩) 16 cpl)) := by
    have hu : Upd (fun k => k = gp) w1.heap.size w1 (w2.setCell ⟨gp, i, none⟩ (.slice (some ⟨pl, 0, none⟩) 16 cpl)) := (Upd.of (S := fun k => k = gp) (unhide HB2)).setCell (p := ⟨gp, i, none⟩) (Or.inl rfl) _
    have gpc : ∀ o, w2.cell? ⟨gp, o, none⟩ = w1.cell? ⟨gp, o, none⟩ := fun o => (unhide HB2).cell (p := ⟨gp, o, none⟩) r2
    refine ⟨⟨_, _, _, kp, (unhide HI1).install hu (fun o => by simp only [World.frozen?_setCell]; exact f4 o) (fun k hk => by have := hS k hk; omega) i hi1 pl cpl hcpl hpl ?_ (fun k hk => ?_) F1 rfl rfl rfl rfl rfl (fun k hk => rfl) (fun k hk => rfl) (bv i) ((unhide HPg).keep (Below.heap_setCell _ _ _ _ hne)) (fun k hk => (unhide HI1).shape i k hi1 hk) (fun k hk h2 => ((unhide HI1).bytes i k hi1 hk h2).upd hu (Nat.le_refl _) (fun x _ h d => h (Or.inr (Or.inl d)))) (fun k hk h2 => (unhide HI1).full i k hi1 hk h2) (fun k hk => (unhide HI1).stOk i k hi1 hk)⟩, (unhide HU1).trans ((onlyR_gp hu).less hl1)⟩
    · refine cs_same (u := .slice (some ⟨pb i, 0, none⟩) 16 (cb i)) ?_
      rw [gpc]
      exact (unhide HI1).page i hi1
    · rw [cs_other (addr_ne (Or.inr hk.symm)), gpc]
  have FN := hide finish
  clear finish HZ HZA hk1
  go_wp2_with fail
  refine (unhide HH).mono ?_
  rintro e wq ⟨rfl, rfl⟩
  go_wp2_with fail
  refine (unhide HH).mono ?_
  rintro e wq ⟨rfl, rfl⟩
  go_wp2
  go_ret
  exact ⟨rfl, (unhide FN).1, (unhide FN).2⟩

theorem IsRfE.fallKeep {w : World} {F : Fl} (h : IsRfE w S hr gp gw cp cw F) (hc : F.cnt = 0) : IsRfE w S hr gp gw cp cw { F with keep := 0 } := by
  obtain ⟨pb, cb, bv, kp, H⟩ := h
  exact ⟨pb, cb, bv, kp, H.anyKeep 0 hc⟩

set_option maxHeartbeats 800000 in
theorem rprog_err (H : IsRf w S hr gp gw cp cw pb cb bv F kp) (i j er : Int) (he : F.look i j = er) (h0 : er ≠ 0) (xv : Value) :
    Calls Tryz.prog 26 #[P0 hr, .int .i64 i, .int .i64 j, xv] w fun e w' => e = .returned (.int .i64 er) ∧ w = w' := by
  have HL := hide (look_any H i j)
  rw [he] at HL
  clear H he
  go_enter Tryz.func26, Tryz.ntmps26
  go_wp2_with fail
  refine (unhide HL).mono ?_
  rintro e w1 ⟨rfl, rfl⟩
  go_wp2
  go_ret
  exact ⟨rfl, rfl⟩

set_option maxRecDepth 100000 in
set_option maxHeartbeats 800000 in
theorem rprog_long (H : IsRf w S hr gp gw cp cw pb cb bv F kp) (i j : Int) (he : F.look i j = 0) (ao : Option Addr) (n c : Nat) (hl : 256 < n) :
    Calls Tryz.prog 26 #[P0 hr, .int .i64 i, .int .i64 j, .slice ao n c] w fun e w' => e = .returned (.int .i64 1) ∧ w = w' := by
  have HL := hide (look_any H i j)
  rw [he] at HL
  clear H he
  go_enter Tryz.func26, Tryz.ntmps26
  go_wp2_with fail
  refine (unhide HL).mono ?_
  rintro e w1 ⟨rfl, rfl⟩
  go_wp2
  go_ret
  exact ⟨rfl, rfl⟩

set_option maxRecDepth 100000 in
set_option maxHeartbeats 800000 in
theorem rprog_used (H : IsRf w S hr gp gw cp cw pb cb bv F kp) (i j : Nat) (hi : i < F.n) (hj : j < 16) (he : F.look i j = 0) (hs : F.st i j ≠ 0) (ao : Option Addr) (n c : Nat) (hl : n ≤ 256) :
    Calls Tryz.prog 26 #[P0 hr, .int .i64 i, .int .i64 j, .slice ao n c] w fun e w' => e = .returned (.int .i64 20) ∧ w = w' := by
  have HL := hide (look_any H i j)
  rw [he] at HL
  have h0 := H.c0; have h1 := H.page i hi; have h2 := H.room i hi; have h3 := H.fitp
  obtain ⟨k0, _, _⟩ := H.cells i hi j hj
  have hb : decide (F.st i j ≠ 0) = true := by simpa using hs
  rw [hb] at k0
  clear H he hs hb
  go_enter Tryz.func26, Tryz.ntmps26
  go_wp2_with fail
  refine (unhide HL).mono ?_
  rintro e w1 ⟨rfl, rfl⟩
  go_wp2
  go_ret
  exact ⟨rfl, rfl⟩

theorem rprog_all (H : IsRf w S hr gp gw cp cw pb cb bv F kp) (hS : ∀ k, S k → k < w.heap.size) (i j : Int) (xv : Value) (zs : List Int) (hz : Sees w .u8 xv zs) (hzA : ∀ a l c, xv = .slice (some a) l c → zs ≠ [] → ¬ OnlyRf hr gp gw a.block) (hby : Byt zs) :
    Calls Tryz.prog 26 #[P0 hr, .int .i64 i, .int .i64 j, xv] w fun e w' => e = .returned (.int .i64 (F.prog i j zs).1) ∧ IsRfE w' S hr gp gw cp cw (F.prog i j zs).2 ∧ Upd (OnlyRf hr gp gw) w.heap.size w w' := by
  unfold Fl.prog
  have same : ∀ er : Int, (Calls Tryz.prog 26 #[P0 hr, .int .i64 i, .int .i64 j, xv] w fun e w' => e = .returned (.int .i64 er) ∧ w = w') → Calls Tryz.prog 26 #[P0 hr, .int .i64 i, .int .i64 j, xv] w fun e w' => e = .returned (.int .i64 er) ∧ IsRfE w' S hr gp gw cp cw F ∧ Upd (OnlyRf hr gp gw) w.heap.size w w' := fun er h => h.mono (by
    rintro e w' ⟨rfl, rfl⟩
    exact ⟨rfl, ⟨pb, cb, bv, kp, H⟩, Upd.refl _ _ _⟩)
  by_cases hd : F.down = true
  · rw [if_pos hd]
    exact same 7 (rprog_err H i j 7 (by unfold Fl.look; rw [if_pos hd]) (by decide) xv)
  rw [if_neg hd]
  have hd' : F.down = false := by simpa using hd
  by_cases hw : F.within i j
  · rw [if_neg (not_not_intro hw)]
    have hlk : F.look i j = 0 := by unfold Fl.look; rw [if_neg hd, if_pos hw]
    obtain ⟨h1, h2, h3, h4⟩ := hw
    obtain ⟨i, rfl⟩ := nat_of h1
    obtain ⟨j, rfl⟩ := nat_of h3
    have hi : i < F.n := by omega
    have hj : j < 16 := by omega
    simp only [Int.toNat_natCast]
    obtain ⟨ao, cpx, hv, hlc, hnil, hcl⟩ := id hz
    by_cases hl : 256 < zs.length
    · rw [if_pos hl]
      subst hv
      exact same 1 (rprog_long H i j hlk ao zs.length cpx hl)
    rw [if_neg hl]
    by_cases hs : F.st i j = 0
    · rw [if_neg (not_not_intro hs)]
      have hn := (burntR_pg F).1
      by_cases c1 : F.cnt = 1
      · have hb := rburn_any H
        have hdt : decide (F.cnt = 1) = true := by simpa using c1
        rw [hdt] at hb
        have e1 : F.code = 7 := by unfold Fl.code; rw [if_pos c1]
        have eR : F.burntR = { F with cnt := 0, down := true } := by unfold Fl.burntR; rw [if_neg (by omega), if_pos c1]
        have eB : F.burnt = { F with cnt := 0 } := by rw [burnt_of F (by omega), c1]; rfl
        have hk := H.keep (by omega)
        rw [eR] at hb hn
        by_cases k2 : F.keep = 2
        · have e2 : F.changed (putA i j) 2 (strOf (pageL zs)) = { ({ F with cnt := 0, down := true } : Fl).put i j 2 (strOf (pageL zs)) with keep := 0 } := by unfold Fl.changed; rw [if_pos c1, if_pos k2, eB]; rfl
          rw [e1, e2]
          refine (rprog_put H hS i j hi hj hd' hs xv zs hz hzA hby (by omega) true _ hb (by rw [hn]; exact hi) (Or.inr (by omega))).mono ?_
          rintro e w' ⟨rfl, a, b⟩
          exact ⟨rfl, a.fallKeep rfl, b⟩
        · by_cases k1 : F.keep = 1
          · have e2 : F.changed (putA i j) 2 (strOf (pageL zs)) = { ({ F with cnt := 0, down := true } : Fl).put i j 1 ⟨#[]⟩ with keep := 0 } := by unfold Fl.changed; rw [if_pos c1, if_neg k2, if_pos k1, eB]; rfl
            rw [e1, e2]
            refine (rprog_torn H hS i j hi hj hd' hs xv zs hz hzA hby (by omega) true _ hb (by rw [hn]; exact hi) ⟨rfl, by omega⟩).mono ?_
            rintro e w' ⟨rfl, a, b⟩
            exact ⟨rfl, a.fallKeep rfl, b⟩
          · have e2 : F.changed (putA i j) 2 (strOf (pageL zs)) = { ({ F with cnt := 0, down := true } : Fl) with keep := 0 } := by unfold Fl.changed; rw [if_pos c1, if_neg k2, if_neg k1, eB]; rfl
            rw [e1, e2]
            refine (rprog_none H hS i j hi hj hd' hs xv zs hz hzA hby (by omega) true _ hb (by rw [hn]; exact hi) ⟨rfl, by omega⟩).mono ?_
            rintro e w' ⟨rfl, a, b⟩
            exact ⟨rfl, a.fallKeep rfl, b⟩
      · have hb := rburn_any H
        have hdt : decide (F.cnt = 1) = false := by simpa using c1
        rw [hdt] at hb
        have e1 : F.code = 0 := by unfold Fl.code; rw [if_neg c1]
        have eR : F.burntR = F.burnt := by unfold Fl.burntR Fl.burnt; rw [if_neg c1]
        have e2 : F.changed (putA i j) 2 (strOf (pageL zs)) = F.burnt.put i j 2 (strOf (pageL zs)) := by unfold Fl.changed; rw [if_neg c1]
        rw [e1, e2]
        rw [eR] at hb hn
        refine (rprog_put H hS i j hi hj hd' hs xv zs hz hzA hby (by omega) false _ hb (by rw [hn]; exact hi) (Or.inl rfl)).mono ?_
        rintro e w' ⟨rfl, a, b⟩
        exact ⟨rfl, a, b⟩
    · rw [if_pos hs]
      subst hv
      exact same 20 (rprog_used H i j hi hj hlk hs ao zs.length cpx (by omega))
  · rw [if_pos hw]
    exact same 1 (rprog_err H i j 1 (by unfold Fl.look; rw [if_neg hd, if_neg hw]) (by decide) xv)

end Go.Proofs.YtiijbklaapaheaaGreat
