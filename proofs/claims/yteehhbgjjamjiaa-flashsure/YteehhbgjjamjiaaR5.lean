/- The document's Program. -/
import Derived.Test.YteehhbgjjamjiaaR4
import Derived.Test.YteehhbgjjamjiaaR1b
namespace Go.Proofs.Yteehhbgjjamjiaa
open Go.RowKit

variable {w : World} {S : Nat → Prop} {hr gp gw cp cw : Nat} {pb cb : Nat → Nat} {bv : Nat → Nat → Value} {F : Fl} {kp : Int}

/-- The document's burn. -/
def Fl.burntR (F : Fl) : Fl := if F.cnt = 0 then F else if F.cnt = 1 then { F with cnt := 0, down := true } else { F with cnt := F.cnt - 1 }
theorem burntR_pg (F : Fl) : F.burntR.n = F.n ∧ F.burntR.st = F.st ∧ F.burntR.bs = F.bs ∧ F.burntR.wear = F.wear := by
  unfold Fl.burntR; (repeat' split) <;> exact ⟨rfl, rfl, rfl, rfl⟩

theorem rburn_any (H : IsRf w S hr gp gw cp cw pb cb bv F kp) :
    Calls Try.prog 57 #[P0 hr] w fun e w' => e = .returned (.bool (decide (F.cnt = 1))) ∧ IsRf w' S hr gp gw cp cw pb cb bv F.burntR kp ∧ Upd (OnlyR hr gp gw) w.heap.size w w' := by
  unfold Fl.burntR
  by_cases c0 : F.cnt = 0
  · refine (rburn_no H c0).mono ?_
    rintro e w' ⟨rfl, rfl⟩
    rw [if_pos c0]
    exact ⟨ret_bool (by simp [c0]), H, Upd.refl _ _ _⟩
  rw [if_neg c0]
  by_cases c1 : F.cnt = 1
  · refine (rburn_one H c1).mono ?_
    rintro e w' ⟨rfl, a, b⟩
    rw [if_pos c1]
    exact ⟨ret_bool (by simp [c1]), a, b⟩
  · have := H.cnt0
    refine (rburn_more H (by omega)).mono ?_
    rintro e w' ⟨rfl, a, b⟩
    rw [if_neg c1]
    exact ⟨ret_bool (by simp [c1]), a, b⟩

/-- There is a flash of the document's, whatever its blocks of pages. -/
def IsRfE (w : World) (S : Nat → Prop) (hr gp gw cp cw : Nat) (F : Fl) : Prop := ∃ pb cb bv kp, IsRf w S hr gp gw cp cw pb cb bv F kp

theorem onlyR_gp {a b : World} {N : Nat} (h : Upd (fun k => k = gp) N a b) : Upd (OnlyR hr gp gw) N a b := h.mono (Nat.le_refl _) (fun _ _ c => Or.inr (Or.inl c))

theorem seesA_new {Av : Nat → Prop} {w w' : World} {v : Value} {zs : List Int} (hs : Sees w' .u8 v zs) (hv : ∀ a l c, v = .slice (some a) l c → w.heap.size ≤ a.block) (hA : ∀ k, Av k → k < w.heap.size) : SeesA Av w' v zs :=
  ⟨hs, fun a l c e d => by have := hv a l c e; have := hA _ d; omega⟩

/-- Full, and that it lies in new memory. -/
theorem full_own (bv : Value) (zs : List Int) (w : World) (hs : Sees w .u8 bv zs) (hl : zs.length ≤ 256) :
    Calls Try.prog 30 #[bv] w fun e w' => ∃ af cpf, e = .returned (.slice af 256 cpf) ∧ Sees w' .u8 (.slice af 256 cpf) (pageL zs) ∧ (∀ a l c, (Value.slice af 256 cpf) = .slice (some a) l c → w.heap.size ≤ a.block) ∧ Below w.heap.size w w' := by
  refine (full_any' bv zs w hs hl).mono ?_
  rintro e w' ⟨x, rfl, ho, hb⟩
  obtain ⟨af, cpf, rfl⟩ := own_shape ho
  refine ⟨af, cpf, rfl, (sees_of_own ho).2, fun a l c e => ?_, hb⟩
  simp only [Value.slice.injEq] at e
  obtain ⟨rfl, _, _⟩ := e
  rcases ho.2 with ⟨h, _⟩ | ⟨g, cap, cur, h, hg, _⟩
  · cases h
  · simp only [Value.slice.injEq, Option.some.injEq] at h
    rw [h.1]; exact hg

set_option maxRecDepth 100000 in
set_option maxHeartbeats 3200000 in
theorem rprog_put (H : IsRf w S hr gp gw cp cw pb cb bv F kp) (hS : ∀ k, S k → k < w.heap.size) (i j : Nat) (hi : i < F.n) (hj : j < 16) (hd : F.down = false) (hs : F.st i j = 0) (xv : Value) (zs : List Int) (hz : Sees w .u8 xv zs) (hzA : ∀ a l c, xv = .slice (some a) l c → zs ≠ [] → ¬ OnlyR hr gp gw a.block) (hby : Byt zs) (hl : zs.length ≤ 256)
    (went : Bool) (F1 : Fl) (HBn : Calls Try.prog 57 #[P0 hr] w fun e w' => e = .returned (.bool went) ∧ IsRf w' S hr gp gw cp cw pb cb bv F1 kp ∧ Upd (OnlyR hr gp gw) w.heap.size w w') (hi1 : i < F1.n) (hmode : went = false ∨ kp % 3 = 2) :
    Calls Try.prog 34 #[P0 hr, .int .i64 i, .int .i64 j, xv] w fun e w' => e = .returned (.int .i64 (if went then 7 else 0)) ∧ IsRfE w' S hr gp gw cp cw (F1.put i j 2 (strOf (pageL zs))) ∧ Upd (OnlyR hr gp gw) w.heap.size w w' := by
  obtain ⟨i0, hi0, hz0, hz1, hz2⟩ := info_parts Try.info86
  have hlk : F.look i j = 0 := by
    unfold Fl.look; rw [hd, if_neg (by decide), if_pos ⟨by omega, by omega, by omega, by omega⟩]
  have HL := hide (look_any H i j)
  rw [hlk] at HL
  have HB := hide HBn
  have h0 := H.c0; have h1 := H.page i hi; have h2 := H.room i hi; have h3 := H.fitp
  obtain ⟨k0, _, _⟩ := H.cells i hi j hj
  rw [hs] at k0
  simp at k0
  obtain ⟨ao, cpx, rfl, hlc, hnil, hcl⟩ := id hz
  have HZ := hide hz
  have HZA := hide hzA
  clear H HBn hz hzA hcl hlk
  go_enter Try.func34, Try.ntmps34
  go_wp2_with fail
  refine (unhide HL).mono ?_
  rintro e w1 ⟨rfl, rfl⟩
  go_wp2_with fail
  refine (unhide HB).mono ?_
  rintro e w1 ⟨rfl, hI1, hU1⟩
  have HI1 := hide hI1
  have HU1 := hide hU1
  have g0 := hI1.c0; have g1 := hI1.page i hi1; have g2 := hI1.room i hi1; have g3 := hI1.fitp; have g4 := hI1.c3
  have hl1 := hU1.size
  clear hI1 hU1 h0 h1 k0 HL HB
  go_wp2_with (at_builtin; refine wpList_append_own _ rfl _ _ 87 rfl w1.heap.size 86 i0 (.agg #[.bool false, .bool false, .slice none 0 0]) 3 32 Try.underlying87 hi0 hz0 hz1 hz2 rfl (by decide) _ 0 [] rfl (World.ownsRow_nil _ _ _ _) ⟨pb i, 0, none⟩ 16 (cb i) (pgCells (F1.st i) (bv i)) rfl (by rw [pgCells_length]) ?d0 (pgCells_one _ _ (fun j hj => (unhide HI1).shape i j hi1 hj)) ?d1 ?d2 ?d3 ?_)
  case d0 =>
    intro t u hu
    have ht : t < 48 := by have := (List.getElem?_eq_some_iff.1 hu).1; rw [pgCells_length] at this; exact this
    rw [pgCells_at _ _ t ht] at hu
    have hadd : (⟨pb i, 0, none⟩ : Addr).add t = ⟨pb i, t, none⟩ := by unfold Addr.add; split <;> simp_all
    rw [hadd, ((unhide HI1).cells i hi1).at t ht, hu]
  case d1 => unfold maxLen; omega
  case d2 => omega
  case d3 => exact Nat.le_refl _
  intro lv w2 ho hg _
  have hb2 : Below w1.heap.size w1 w2 := (Below.refl _ _).grown hg (Nat.le_refl _) (fun k hk => by simp [Value.ownBlock] at hk)
  obtain ⟨pl, cpl, rfl, hcpl, hpl, hPg, hfr⟩ := own_pages (st := F1.st i) (bv := bv i) (by simpa using ho)
  have HI2 := hide ((unhide HI1).below hb2)
  have HB2 := hide hb2
  have hplt : pl < w2.heap.size := World.block_lt_of_cell? w2 _ (hPg 0 (by omega)).1
  have HPg := hide hPg
  have hl2 := hb2.size
  have f0 := (unhide HI2).c0; have f1 := (unhide HI2).page i hi1; have f3 := (unhide HI2).c3; have f4 := (unhide HI2).frP
  obtain ⟨p0, p1, p2⟩ := hPg j hj
  have hrl := (unhide HI1).rlt
  obtain ⟨r1, r2, r3, _⟩ := hrl
  clear ho hg hb2 hPg g0 g1 g4
  have HZ2 : Hid (Sees w2 .u8 (.slice ao zs.length cpx) zs) := by
    have hu : Upd (OnlyR hr gp gw) w.heap.size w w2 := (unhide HU1).trans ((Upd.of (unhide HB2)).less hl1)
    by_cases hzn : zs = []
    · obtain ⟨ao', cap', e', hl', hn', _⟩ := unhide HZ
      exact ⟨ao', cap', e', hl', hn', fun _ _ t ht => absurd ht (by rw [hzn]; exact Nat.not_lt_zero _)⟩
    · exact (SeesA.upd (Av := OnlyR hr gp gw) ⟨unhide HZ, fun a l c e => unhide HZA a l c e hzn⟩ hu (Nat.le_refl _) (fun k _ h => h)).1
  have HF := hide (full_own _ zs w2 (unhide HZ2) hl)
  have HH := hide (how_any kp w2)
  have finish : ∀ (w3 : World) (xf : Value) (cpf : Nat) (af : Option Addr), xf = .slice af 256 cpf → Sees w3 .u8 xf (pageL zs) → (∀ a l c, xf = .slice (some a) l c → w2.heap.size ≤ a.block) → Below w2.heap.size w2 w3 →
      IsRfE ((((w3.setCell ⟨pl, j * 3, none⟩ (.bool true)).setCell ⟨pl, j * 3 + 1, none⟩ (.bool false)).setCell ⟨pl, j * 3 + 2, none⟩ xf).setCell ⟨gp, i, none⟩ (.slice (some ⟨pl, 0, none⟩) 16 cpl)) S hr gp gw cp cw (F1.put i j 2 (strOf (pageL zs))) ∧ Upd (OnlyR hr gp gw) w.heap.size w ((((w3.setCell ⟨pl, j * 3, none⟩ (.bool true)).setCell ⟨pl, j * 3 + 1, none⟩ (.bool false)).setCell ⟨pl, j * 3 + 2, none⟩ xf).setCell ⟨gp, i, none⟩ (.slice (some ⟨pl, 0, none⟩) 16 cpl)) := by
    intro w3 xf cpf af hxf hsf hnew hb3
    have hu : Upd (fun k => k = gp) w1.heap.size w1 ((((w3.setCell ⟨pl, j * 3, none⟩ (.bool true)).setCell ⟨pl, j * 3 + 1, none⟩ (.bool false)).setCell ⟨pl, j * 3 + 2, none⟩ xf).setCell ⟨gp, i, none⟩ (.slice (some ⟨pl, 0, none⟩) 16 cpl)) :=
      (((((Upd.of (S := fun k => k = gp) (unhide HB2)).trans ((Upd.of hb3).less hl2)).setCell (p := ⟨pl, j * 3, none⟩) (Or.inr hpl) _).setCell (p := ⟨pl, j * 3 + 1, none⟩) (Or.inr hpl) _).setCell (p := ⟨pl, j * 3 + 2, none⟩) (Or.inr hpl) _).setCell (p := ⟨gp, i, none⟩) (Or.inl rfl) _
    have hne : pl ≠ gp := by omega
    have gpc : ∀ o, w3.cell? ⟨gp, o, none⟩ = w1.cell? ⟨gp, o, none⟩ := fun o => (hb3.cell (p := ⟨gp, o, none⟩) (by show gp < _; omega)).trans ((unhide HB2).cell (p := ⟨gp, o, none⟩) r2)
    have gpf : ∀ o, w3.frozen? ⟨gp, o, none⟩ = false := fun o => (hb3.frozen (p := ⟨gp, o, none⟩) (by show gp < _; omega)).trans (f4 o)
    refine ⟨⟨_, _, _, kp, (unhide HI1).install hu (fun o => by simp only [World.frozen?_setCell]; exact gpf o) (fun k hk => by have := hS k hk; omega) i hi1 pl cpl hcpl hpl ?_ (fun k hk => ?_) (F1.put i j 2 (strOf (pageL zs))) rfl rfl rfl rfl rfl (fun k hk => ?_) (fun k hk => ?_) (fun k => if k = j then xf else bv i k) ?_ (fun k hk => ?_) (fun k hk h2 => ?_) (fun k hk h2 => ?_) (fun k hk => ?_)⟩, (unhide HU1).trans ((onlyR_gp hu).less hl1)⟩
    · refine cs_same (u := .slice (some ⟨pb i, 0, none⟩) 16 (cb i)) ?_
      rw [cs_other (addr_ne (Or.inl hne)), cs_other (addr_ne (Or.inl hne)), cs_other (addr_ne (Or.inl hne)), gpc]
      exact (unhide HI1).page i hi1
    · rw [cs_other (addr_ne (Or.inr hk.symm)), cs_other (addr_ne (Or.inl hne)), cs_other (addr_ne (Or.inl hne)), cs_other (addr_ne (Or.inl hne)), gpc]
    · funext k'; show (if k = i ∧ k' = j then _ else _) = _; rw [if_neg (fun c => hk c.1)]
    · funext k'; show (if k = i ∧ k' = j then _ else _) = _; rw [if_neg (fun c => hk c.1)]; rfl
    · have hp3 : PgAt w3 pl (F1.st i) (bv i) := (unhide HPg).keep (hb3.block pl hplt)
      have := (hp3.set j hj 2 xf).keep (w' := (((w3.setCell ⟨pl, j * 3, none⟩ (.bool true)).setCell ⟨pl, j * 3 + 1, none⟩ (.bool false)).setCell ⟨pl, j * 3 + 2, none⟩ xf).setCell ⟨gp, i, none⟩ (.slice (some ⟨pl, 0, none⟩) 16 cpl)) (Below.heap_setCell _ _ _ _ hne)
      have e : (F1.put i j 2 (strOf (pageL zs))).st i = fun k => if k = j then 2 else F1.st i k := by funext k; show (if i = i ∧ k = j then _ else _) = _; by_cases c : k = j <;> simp [c]
      rw [e]
      exact this
    · by_cases c : k = j
      · exact ⟨_, _, _, by rw [if_pos c]; exact hxf⟩
      · rw [if_neg c]; exact (unhide HI1).shape i k hi1 hk
    · by_cases c : k = j
      · subst c
        have e : (F1.put i k 2 (strOf (pageL zs))).bs i k = strOf (pageL zs) := by show (if i = i ∧ k = k then _ else _) = _; rw [if_pos ⟨rfl, rfl⟩]
        rw [if_pos rfl, e, bytesOf_strOf (pageL_byt hby)]
        have hsz : ∀ x, Three hr gp gw S x → x < w2.heap.size := by
          rintro x (c | c | c | c)
          · omega
          · omega
          · omega
          · have := hS x c; omega
        have s1 : SeesA (fun x => x < w2.heap.size ∨ x = pl) w3 xf (pageL zs) := ⟨hsf, fun a l c e d => by
          have h1 := hnew a l c e
          rcases d with d | d <;> omega⟩
        have hu3 : Upd (fun x => x < w2.heap.size ∨ x = pl) w3.heap.size w3 ((((w3.setCell ⟨pl, k * 3, none⟩ (.bool true)).setCell ⟨pl, k * 3 + 1, none⟩ (.bool false)).setCell ⟨pl, k * 3 + 2, none⟩ xf).setCell ⟨gp, i, none⟩ (.slice (some ⟨pl, 0, none⟩) 16 cpl)) :=
          ((((Upd.refl (fun x => x < w2.heap.size ∨ x = pl) w3.heap.size w3).setCell (p := ⟨pl, k * 3, none⟩) (Or.inl (Or.inr rfl)) _).setCell (p := ⟨pl, k * 3 + 1, none⟩) (Or.inl (Or.inr rfl)) _).setCell (p := ⟨pl, k * 3 + 2, none⟩) (Or.inl (Or.inr rfl)) _).setCell (p := ⟨gp, i, none⟩) (Or.inl (Or.inl (by show gp < _; omega))) _
        have s2 := s1.upd hu3 (Nat.le_refl _) (fun x _ h => h)
        exact ⟨s2.1, fun a l c e d => by have := hsz _ d; have := hnew a l c e; omega⟩
      · have e1 : (F1.put i j 2 (strOf (pageL zs))).bs i k = F1.bs i k := by show (if i = i ∧ k = j then _ else _) = _; rw [if_neg (fun d => c d.2)]; rfl
        have e2 : (F1.put i j 2 (strOf (pageL zs))).st i k = F1.st i k := by show (if i = i ∧ k = j then _ else _) = _; rw [if_neg (fun d => c d.2)]
        rw [if_neg c, e1]
        rw [e2] at h2
        exact ((unhide HI1).bytes i k hi1 hk h2).upd hu (Nat.le_refl _) (fun x _ h d => h (Or.inr (Or.inl d)))
    · by_cases c : k = j
      · subst c
        have e : (F1.put i k 2 (strOf (pageL zs))).bs i k = strOf (pageL zs) := by show (if i = i ∧ k = k then _ else _) = _; rw [if_pos ⟨rfl, rfl⟩]
        rw [e]
        have := pageL_length hl
        show (strOf (pageL zs)).data.size = 256
        simp [strOf, this]
      · have e1 : (F1.put i j 2 (strOf (pageL zs))).bs i k = F1.bs i k := by show (if i = i ∧ k = j then _ else _) = _; rw [if_neg (fun d => c d.2)]; rfl
        have e2 : (F1.put i j 2 (strOf (pageL zs))).st i k = F1.st i k := by show (if i = i ∧ k = j then _ else _) = _; rw [if_neg (fun d => c d.2)]
        rw [e1]
        rw [e2] at h2
        exact (unhide HI1).full i k hi1 hk h2
    · by_cases c : k = j
      · right; right; show (if i = i ∧ k = j then _ else _) = _; rw [if_pos ⟨rfl, c⟩]
      · have e2 : (F1.put i j 2 (strOf (pageL zs))).st i k = F1.st i k := by show (if i = i ∧ k = j then _ else _) = _; rw [if_neg (fun d => c d.2)]
        rw [e2]; exact (unhide HI1).stOk i k hi1 hk
  have FIN := hide finish
  clear finish HZ HZA HZ2
  cases went with
  | false =>
    go_wp2_with fail
    refine (unhide HF).mono ?_
    rintro e w3 ⟨af, cpf, rfl, hsf, hnew, hb3⟩
    have FN := hide (unhide FIN w3 _ cpf af rfl hsf hnew hb3)
    have q0 := (hb3.cell (p := ⟨hr, 0, none⟩) (by show hr < _; omega)).trans f0
    have q1 := (hb3.cell (p := ⟨gp, i, none⟩) (by show gp < _; omega)).trans f1
    have q2 := (hb3.cell (p := ⟨pl, j * 3, none⟩) hplt).trans p0
    have q3 := (hb3.cell (p := ⟨pl, j * 3 + 1, none⟩) hplt).trans p1
    have q4 := (hb3.cell (p := ⟨pl, j * 3 + 2, none⟩) hplt).trans p2
    have q5 : ∀ o, w3.frozen? ⟨pl, o, none⟩ = false := fun o => (hb3.frozen (p := ⟨pl, o, none⟩) hplt).trans (hfr o)
    have q6 : ∀ o, w3.frozen? ⟨gp, o, none⟩ = false := fun o => (hb3.frozen (p := ⟨gp, o, none⟩) (by show gp < _; omega)).trans (f4 o)
    have hne : pl ≠ gp := by omega
    have hne2 : pl ≠ hr := by omega
    clear hsf hnew hb3 f0 f1 p0 p1 p2 HF
    go_wp2
    go_ret
    exact ⟨rfl, (unhide FN).1, (unhide FN).2⟩
  | true =>
    have hk2 : kp % 3 = 2 := by rcases hmode with h | h; cases h; exact h
    rw [hk2] at HH
    go_wp2_with fail
    refine (unhide HH).mono ?_
    rintro e wq ⟨rfl, rfl⟩
    go_wp2_with fail
    refine (unhide HF).mono ?_
    rintro e w3 ⟨af, cpf, rfl, hsf, hnew, hb3⟩
    have FN := hide (unhide FIN w3 _ cpf af rfl hsf hnew hb3)
    have q0 := (hb3.cell (p := ⟨hr, 0, none⟩) (by show hr < _; omega)).trans f0
    have q1 := (hb3.cell (p := ⟨gp, i, none⟩) (by show gp < _; omega)).trans f1
    have q2 := (hb3.cell (p := ⟨pl, j * 3, none⟩) hplt).trans p0
    have q3 := (hb3.cell (p := ⟨pl, j * 3 + 1, none⟩) hplt).trans p1
    have q4 := (hb3.cell (p := ⟨pl, j * 3 + 2, none⟩) hplt).trans p2
    have q5 : ∀ o, w3.frozen? ⟨pl, o, none⟩ = false := fun o => (hb3.frozen (p := ⟨pl, o, none⟩) hplt).trans (hfr o)
    have q6 : ∀ o, w3.frozen? ⟨gp, o, none⟩ = false := fun o => (hb3.frozen (p := ⟨gp, o, none⟩) (by show gp < _; omega)).trans (f4 o)
    have hne : pl ≠ gp := by omega
    have hne2 : pl ≠ hr := by omega
    clear hsf hnew hb3 f0 f1 p0 p1 p2 HF hk2
    go_wp2
    go_ret
    exact ⟨rfl, (unhide FN).1, (unhide FN).2⟩

end Go.Proofs.Yteehhbgjjamjiaa
