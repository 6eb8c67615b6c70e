/- FlashSure: the walk. -/
import Derived.Test.YteehhbgjjamjiaaVA
import Derived.Test.YteehhbgjjamjiaaM7
import Derived.Deep.RegionHeld3
namespace Go.Proofs.Yteehhbgjjamjiaa
open Go.RowKit

def Av3 (g h mb : Nat) : Nat → Prop := fun k => k = g ∨ k = h ∨ k = mb

/-- The flash, and the map of all that was programmed with OK. -/
structure Sure (w wr : World) (g h cap mb nn : Nat) (F : Fl) (D : DataW Value) : Prop where
  fl : IsFl wr g h cap F
  n4 : F.n = 4
  cnt : CntOk F
  own : wr.ownsMap Try.prog 53 slR mb nn D
  kept : Kept wr (Av3 g h mb) F D
  below : Below w.heap.size w wr
  bg : w.heap.size ≤ g
  bh : w.heap.size ≤ h
  bm : w.heap.size ≤ mb
  gm : g ≠ mb
  hm : h ≠ mb

variable {w wr w' : World} {g h cap mb nn : Nat} {F F' : Fl} {D : DataW Value}

theorem Sure.bel (S : Sure w wr g h cap mb nn F D) (hb : Below wr.heap.size wr w') : Sure w w' g h cap mb nn F D :=
  ⟨S.fl.below hb, S.n4, S.cnt, ownsMap_of_block S.own (hb.block mb S.own.lt), S.kept.upd (Upd.of hb) (Nat.le_refl _) (fun _ _ _ c => c) rfl (fun _ _ h => ⟨h, rfl⟩), S.below.trans (hb.mono S.below.size), S.bg, S.bh, S.bm, S.gm, S.hm⟩
theorem Sure.flash (S : Sure w wr g h cap mb nn F D) (hU : Upd (Two g h) wr.heap.size wr w') (hI : IsFl w' g h cap F') (hn : F'.n = F.n) (hc : CntOk F') (hp : ∀ a b : Nat, F.st a b = 2 → F'.st a b = 2 ∧ F'.bs a b = F.bs a b) : Sure w w' g h cap mb nn F' D :=
  ⟨hI, hn.trans S.n4, hc, ownsMap_of_block S.own (hU.block mb S.own.lt (by rintro (e | e); exact S.gm e.symm; exact S.hm e.symm)), S.kept.upd hU (Nat.le_refl _) (fun _ _ hk c => hk (by rcases c with c | c; exact .inl c; exact .inr (.inl c))) hn hp,
    S.below.trans (hU.below S.below.size (by rintro k hk (e | e); have := S.bg; omega; have := S.bh; omega)), S.bg, S.bh, S.bm, S.gm, S.hm⟩
/-- The map alone has changed. -/
theorem Sure.map {D' : DataW Value} {n' : Nat} (S : Sure w wr g h cap mb nn F D) (hg : wr.grownBy w' (some mb)) (ho : w'.ownsMap Try.prog 53 slR mb n' D') (hk : Kept w' (Av3 g h mb) F D') : Sure w w' g h cap mb n' F D' := by
  have hU := upd_of_grown hg
  exact ⟨S.fl.upd hU (Nat.le_refl _) S.gm S.hm, S.n4, S.cnt, ho, hk, S.below.trans (hU.below S.below.size (by rintro k hk rfl; have := S.bm; omega)), S.bg, S.bh, S.bm, S.gm, S.hm⟩
theorem Sure.keptMap (S : Sure w wr g h cap mb nn F D) (hg : wr.grownBy w' (some mb)) : Kept w' (Av3 g h mb) F D :=
  S.kept.upd (upd_of_grown hg) (Nat.le_refl _) (fun _ _ hk c => hk (.inr (.inr c))) rfl (fun _ _ h => ⟨h, rfl⟩)

/-- A page is put. -/
theorem Sure.put {a1 a2 : Int} {v : Value} {zs : List Int} (S : Sure w wr g h cap mb nn F D) (i1 : I64 a1) (i2 : I64 a2) (hin : F.within a1 a2) (hst : F.st a1.toNat a2.toNat = 2) (hbs : F.bs a1.toNat a2.toNat = strOf (pageL zs)) (hl : zs.length ≤ 256) (hby : Byt zs)
    (hv : SeesA (Av3 g h mb) wr v zs) (hg : wr.grownBy w' (some mb)) (ho : w'.ownsMap Try.prog 53 slR mb (nn + 1) (D.put (kl a1 a2) (.held v))) : Sure w w' g h cap mb (nn + 1) F (D.put (kl a1 a2) (.held v)) := by
  obtain ⟨p1, p2, p3, p4⟩ := hin
  obtain ⟨i, rfl⟩ := nat_of p1
  obtain ⟨j, rfl⟩ := nat_of p3
  rw [Int.toNat_natCast, Int.toNat_natCast] at hst hbs
  have hn := S.n4
  exact S.map hg ho ((S.keptMap hg).put S.own.isMap (by omega) (by omega) (by omega) hst (hv.upd (upd_of_grown hg) (Nat.le_refl _) (fun _ _ hk c => hk (.inr (.inr c)))) hby hl hbs)

/-- While block i's pages are struck off. -/
structure SureE (w wl : World) (g h cap mb nn : Nat) (F F' : Fl) (D D' : DataW Value) (i : Int) (k bx : Nat) (BX : Option Obj) : Prop where
  fl : IsFl wl g h cap F'
  n4 : F'.n = F.n
  m4 : F.n = 4
  cnt : CntOk F'
  own : wl.ownsMap Try.prog 53 slR mb nn D'
  kept : Kept wl (Av3 g h mb) F D
  struck : Struck D D' i k
  pg : ∀ a b : Nat, (a : Int) ≠ i → F'.st a b = F.st a b ∧ F'.bs a b = F.bs a b
  below : Below w.heap.size w wl
  bg : w.heap.size ≤ g
  bh : w.heap.size ≤ h
  bm : w.heap.size ≤ mb
  gm : g ≠ mb
  hm : h ≠ mb
  box : wl.heap[bx]? = BX
  bl : bx < wl.heap.size
  xm : bx ≠ mb

theorem SureE.start {i : Int} {bx : Nat} (S : Sure w wr g h cap mb nn F D) (hU : Upd (Two g h) wr.heap.size wr w') (hI : IsFl w' g h cap (F.erase i).2) (hb : bx < wr.heap.size) (hxg : bx ≠ g) (hxh : bx ≠ h) (hxm : bx ≠ mb) :
    SureE w w' g h cap mb nn F (F.erase i).2 D D i 0 bx wr.heap[bx]? :=
  ⟨hI, erase_n F i, S.n4, erase_cnt F i S.cnt, ownsMap_of_block S.own (hU.block mb S.own.lt (by rintro (e | e); exact S.gm e.symm; exact S.hm e.symm)), S.kept.upd hU (Nat.le_refl _) (fun _ _ hk c => hk (by rcases c with c | c; exact .inl c; exact .inr (.inl c))) rfl (fun _ _ h => ⟨h, rfl⟩),
    Struck.zero D i, fun a b hne => erase_other F i a b hne, S.below.trans (hU.below S.below.size (by rintro k hk (e | e); have := S.bg; omega; have := S.bh; omega)), S.bg, S.bh, S.bm, S.gm, S.hm,
    hU.block bx hb (by rintro (e | e); exact hxg e; exact hxh e), Nat.lt_of_lt_of_le hb hU.size, hxm⟩
theorem SureE.step {wl : World} {D' : DataW Value} {i : Int} {k bx : Nat} {BX : Option Obj} (S : SureE w wl g h cap mb nn F F' D D' i k bx BX) (hi : I64 i) (ht : wl.mapTurned w' mb) (ho : w'.ownsMap Try.prog 53 slR mb nn (D'.del (kl i k))) :
    SureE w w' g h cap mb nn F F' D (D'.del (kl i k)) i (k + 1) bx BX := by
  have hU := upd_of_grown ht.grown
  exact ⟨S.fl.upd hU (Nat.le_refl _) S.gm S.hm, S.n4, S.m4, S.cnt, ho, S.kept.upd hU (Nat.le_refl _) (fun _ _ hk c => hk (.inr (.inr c))) rfl (fun _ _ h => ⟨h, rfl⟩), S.struck.step hi, S.pg,
    S.below.trans (hU.below S.below.size (by rintro k hk rfl; have := S.bm; omega)), S.bg, S.bh, S.bm, S.gm, S.hm, (hU.block bx S.bl S.xm).trans S.box, Nat.lt_of_lt_of_le S.bl hU.size, S.xm⟩
theorem SureE.stop {wl : World} {D' : DataW Value} {i : Int} {bx : Nat} {BX : Option Obj} (S : SureE w wl g h cap mb nn F F' D D' i 16 bx BX) : Sure w wl g h cap mb nn F' D' :=
  ⟨S.fl, S.n4.trans S.m4, S.cnt, S.own, S.kept.struck S.struck S.n4 S.pg, S.below, S.bg, S.bh, S.bm, S.gm, S.hm⟩

theorem own_slice {lo : Nat} {x : Value} {n : Nat} {zs : List Int} (h : wr.ownsRow lo 5 1 x n (ints .u8 zs)) {Av : Nat → Prop} (hA : ∀ k, Av k → k < lo) : (∃ a c, x = .slice a zs.length c) ∧ SeesA Av wr x zs := by
  obtain ⟨rfl, hs⟩ := sees_of_own h
  obtain ⟨ao, cap, e, _⟩ := id hs
  refine ⟨⟨ao, cap, e⟩, hs, fun a l c e' hc => ?_⟩
  have := hA _ hc
  rcases h.2 with ⟨e0, _⟩ | ⟨g', cap', cur, e1, hg', _⟩
  · rw [e0] at e'; cases e'
  · rw [e1] at e'
    cases e'
    simp at this
    omega

theorem sees_front {w : World} {ax : Option Addr} {cx : Nat} {zs : List Int} (hl : zs.length ≤ 256) (h : Sees w .u8 (.slice ax 256 cx) (pageL zs)) : Sees w .u8 (.slice ax zs.length cx) zs := by
  obtain ⟨ao, cap, e, h1, h2, h3⟩ := h
  rw [pageL_length hl] at h1 h3
  simp only [Value.slice.injEq] at e
  obtain ⟨rfl, _, rfl⟩ := e
  refine ⟨ax, cx, rfl, by omega, h2, fun a e t ht => ?_⟩
  rw [h3 a e t (by omega)]
  congr 2
  unfold pageL
  simp [List.getD, List.getElem?_append_left ht]
theorem readE_of {F : Fl} {i j : Nat} (hd : F.down = false) (hi : i < F.n) (hj : j < 16) (hs : F.st i j = 2) : F.readE i j = 0 := by
  unfold Fl.readE
  rw [if_neg (by simp [hd]), if_neg (not_not_intro ⟨by omega, by omega, by omega, by omega⟩), if_pos (by simpa using hs)]
theorem readB_of {F : Fl} {i j : Nat} {zs : List Int} (he : F.readE i j = 0) (hb : F.bs i j = strOf (pageL zs)) (hby : Byt zs) : F.readB i j = pageL zs := by
  unfold Fl.readB
  rw [if_pos he]
  simp only [Int.toNat_natCast, hb]
  exact bytesOf_strOf (pageL_byt hby)

set_option maxRecDepth 100000 in
set_option maxHeartbeats 6400000 in
theorem flashSure_walk (sv : Value) (m : Nat) (os : Nat → OpV) (w : World) (hs : SeesOps w sv m os) :
    Calls Try.prog 4 #[sv] w fun e w' => e = .returned (.bool true) ∧ Below w.heap.size w w' := by
  have HS : Hid (∀ w', Below w.heap.size w w' → SeesOps w' sv m os) := fun w' hb => hs.below hb
  obtain ⟨ao, cap0, _, _, rfl, hcap, hmax, _⟩ := id hs
  clear hs
  go_enter Try.func4, Try.ntmps4
  go_wp2_with fail
  refine (new_ok 4 w (by decide) (by decide)).mono ?_
  rintro e w1 ⟨g, h, cap, rfl, hI, hb1, hg, hh⟩
  have HI := hide hI; have HB1 := hide hb1
  clear hI hb1
  go_wp2_with fail
  refine (begun_any w1).mono ?_
  rintro e w2 ⟨rfl, hb2⟩
  have hI2 := (unhide HI).below hb2
  have hB2 : Below w.heap.size w w2 := (unhide HB1).trans (hb2.mono (unhide HB1).size)
  have hgl := hI2.glt
  have hhl := hI2.hlt
  have hal : Below w2.heap.size w2 (w2.alloc (.map #[] 0)) := (Below.refl _ _).alloc (Nat.le_refl _) _
  have HT0 : Hid (Sure w (w2.alloc (.map #[] 0)) g h cap w2.heap.size 0 (Fl.blank 4) (.map [])) :=
    ⟨hI2.below hal, rfl, ⟨by decide, by decide⟩, World.ownsMap_made w2 Try.prog 53 slR, Kept.empty _ _ _, hB2.trans (hal.mono hB2.size), hg, hh, hB2.size, by omega, by omega⟩
  obtain ⟨mb, hmb⟩ : ∃ mb, w2.heap.size = mb := ⟨_, rfl⟩
  obtain ⟨W0, hW0⟩ : ∃ W0, w2.alloc (.map #[] 0) = W0 := ⟨_, rfl⟩
  rw [hmb, hW0] at HT0
  have hmk : (Instr.makeMap 50 none).run Try.prog w2 = .ok (.map (some mb)) W0 := by rw [← hmb, ← hW0]; exact run_makeMap 50 w2
  clear hb2 hI2 hB2 hgl hhl hal HI HB1 hg hh hmb hW0
  go_wp2
  clear hmk
  go_loopw [33] (fun c wr => ∃ (t : Nat) (F : Fl) (D : DataW Value) (nn : Nat), t ≤ m ∧ c = .int .i64 t ∧ Sure w wr g h cap mb nn F D ∧ F.down = false ∧ nn ≤ t) (fun c _ => m - (intOf c).toNat)
  case atStart => exact ⟨0, _, _, 0, by omega, rfl, unhide HT0, rfl, Nat.le_refl _⟩
  case round =>
    obtain ⟨t, F, D, nn, ht, rfl, hT, hup, hnn⟩ := hrel
    by_cases hlt : t < m
    · obtain ⟨ao', cap', gb, ob, hv, _, _, hao, hcl⟩ := unhide HS wr hT.below
      simp only [Value.slice.injEq, true_and] at hv
      obtain ⟨rfl, rfl⟩ := hv
      obtain rfl := hao (by omega)
      obtain ⟨hok, c0, c1, c2, c3, c4, c5⟩ := hcl t hlt
      have HQ : Hid (∀ w', Below w.heap.size w w' → Sees w' .u8 (os t).b (os t).zs) := fun w' hb => by
        obtain ⟨_, _, _, _, _, _, _, _, h5⟩ := unhide HS w' hb
        exact (h5 t hlt).1.sees
      obtain ⟨q, hq⟩ : ∃ q, os t = q := ⟨_, rfl⟩
      rw [hq] at hok c0 c1 c2 c3 c4 c5 HQ
      clear hcl hao hq
      obtain ⟨a0, a1, a2, a3, a4, qb, qz⟩ := q
      obtain ⟨_, i1, i2, i3, i4, qs, qby⟩ := hok
      simp only at i1 i2 i3 i4 qs qby c0 c1 c2 c3 c4 c5 HQ
      obtain ⟨aoq, cpq, rfl, _⟩ := qs
      have hal : Below wr.heap.size wr (wr.alloc (.cells #[.int .i64 a0, .int .i64 a1, .int .i64 a2, .int .i64 a3, .int .i64 a4, .slice aoq qz.length cpq] 30)) := (Below.refl _ _).alloc (Nat.le_refl _) _
      have HT1 := hide (hT.bel hal)
      have HNe : Hid (wr.heap.size ≠ g ∧ wr.heap.size ≠ h ∧ wr.heap.size ≠ mb ∧ g < wr.heap.size ∧ h < wr.heap.size ∧ mb < wr.heap.size) := by
        have h1 := hT.fl.glt; have h2 := hT.fl.hlt; have h3 := hT.own.lt
        exact ⟨by omega, by omega, by omega, h1, h2, h3⟩
      have HCell : Hid (∀ w' : World, w'.heap[wr.heap.size]? = (wr.alloc (.cells #[.int .i64 a0, .int .i64 a1, .int .i64 a2, .int .i64 a3, .int .i64 a4, .slice aoq qz.length cpq] 30)).heap[wr.heap.size]? → w'.cell? ⟨wr.heap.size, 1, none⟩ = some (.int .i64 a1) ∧ w'.cell? ⟨wr.heap.size, 2, none⟩ = some (.int .i64 a2) ∧ w'.cell? ⟨wr.heap.size, 5, none⟩ = some (.slice aoq qz.length cpq)) := fun w' hb => by
        refine ⟨?_, ?_, ?_⟩
        · rw [World.cell?_of_block (a := ⟨wr.heap.size, 1, none⟩) hb, World.cell?_alloc_new]; rfl
        · rw [World.cell?_of_block (a := ⟨wr.heap.size, 2, none⟩) hb, World.cell?_alloc_new]; rfl
        · rw [World.cell?_of_block (a := ⟨wr.heap.size, 5, none⟩) hb, World.cell?_alloc_new]; rfl
      have HKept := hide hT.kept
      have HUP := hide hup
      have HI1 := hide i1; have HI2 := hide i2; have HI3 := hide i3; have HBY := hide qby
      clear hT hup hal i1 i2 i3 i4 qby
      by_cases e0 : a0 = 0
      · subst e0
        have HP := hide (prog_all (unhide HT1).fl (unhide HT1).cnt.1 (unhide HT1).cnt.2 a1 a2 _ qz (unhide HQ _ (unhide HT1).below) (unhide HBY))
        obtain ⟨r, hr⟩ : ∃ r, (F.prog a1 a2 qz).1 = r := ⟨_, rfl⟩
        rw [hr] at HP
        have HR := hide hr
        clear hr
        go_wp2_with fail
        refine (unhide HP).mono ?_
        rintro e w3 ⟨rfl, hI3, hU3⟩
        have HT3 := hide ((unhide HT1).flash hU3 hI3 (prog_n F a1 a2 qz) (prog_cnt F a1 a2 qz (unhide HT1).cnt) (prog_two F a1 a2 qz))
        obtain ⟨n1, n2, n3, n4, n5, n6⟩ := unhide HNe
        have hbx := hU3.block wr.heap.size (by simp) (by rintro (e | e); exact n1 e; exact n2 e)
        have hs3 := hU3.size
        simp only [World.size_alloc] at hs3
        have HS3 := hide hs3
        have HBX3 := hide hbx
        obtain ⟨d1, d2, d5⟩ := unhide HCell w3 hbx
        clear hI3 hU3 HP n1 n2 n3 n4 n5 n6 hbx hs3
        by_cases hr0 : r = 0
        · subst hr0
          have hz := prog_zero F a1 a2 qz (unhide HR)
          have hnot : Maps.has D (kl a1 a2) = false := by
            cases hh : Maps.has D (kl a1 a2) with
            | false => rfl
            | true =>
              obtain ⟨i, j, rfl, rfl, _, _, hs2, _⟩ := unhide HKept a1 a2 (unhide HI1) (unhide HI2) hh
              have := hz.2.2.1
              rw [Int.toNat_natCast, Int.toNat_natCast] at this
              omega
          have HZ := hide hz
          clear hz
          go_wp2_with (first | (at_lookup; refine wpList_lookup_own_ok _ rfl _ _ 50 rfl 53 28 key53 Try.underlying50 slR (z := .slice none 0 0) (Try.zeroValue28 _) (.held (.slice none 0 0)) [] rfl mb nn D rfl (unhide HT3).own _ (kl a1 a2) rfl (key_mk (unhide HI1) (unhide HI2)) ?_; intro v ps hv; rw [hnot]; clear hv) | fail)
          have hd3 : Below w3.heap.size w3 w3.drew := (Below.refl _ _).drew
          have HT4 := hide ((unhide HT3).bel hd3)
          have HCl := hide (clone_any _ qz w3.drew (unhide HQ _ (unhide HT4).below) (by have := (unhide HZ).2.1; omega))
          have HC3 := hide (unhide HCell w3.drew (unhide HBX3))
          have HCS : Hid (∀ w' : World, w'.heap[wr.heap.size]? = w3.heap[wr.heap.size]? → w'.cell? ⟨wr.heap.size, 1, none⟩ = some (.int .i64 a1) ∧ w'.cell? ⟨wr.heap.size, 2, none⟩ = some (.int .i64 a2) ∧ w'.cell? ⟨wr.heap.size, 5, none⟩ = some (.slice aoq qz.length cpq)) := fun w' hb => unhide HCell w' (hb.trans (unhide HBX3))
          clear hd3 HCell HBX3 HT3
          refine wp_region_held_drew (S := fun w' => w'.cell? ⟨wr.heap.size, 1, none⟩ = some (.int .i64 a1) ∧ w'.cell? ⟨wr.heap.size, 2, none⟩ = some (.int .i64 a2) ∧ w'.cell? ⟨wr.heap.size, 5, none⟩ = some (.slice aoq qz.length cpq)) (by kernel_rfl) (unhide HC3) (fun hHeld => ?_)
          refine wpAnyH_take (i := 0) (v := ?vp0) rfl (by kernel_rfl) (by kernel_rfl) (by kernel_rfl) (fun _ _ _ h => h) (Or.inl ⟨by rfl, ?hyp0⟩) (by assumption) ?restp0
          case hyp0 => intro w hSw; obtain ⟨s1, s2, s3⟩ := hSw; go_simp <;> with_reducible rfl
          simp only [Act.put, List.getElem_toArray, List.getElem_cons_zero, List.setIfInBounds_toArray, List.set_cons_zero, List.set_cons_succ]
          refine wpAnyH_take (i := 1) (v := ?vp1) rfl (by kernel_rfl) (by kernel_rfl) (by kernel_rfl) (fun _ _ _ h => h) (Or.inl ⟨by rfl, ?hyp1⟩) (by assumption) ?restp1
          case hyp1 => intro w hSw; obtain ⟨s1, s2, s3⟩ := hSw; go_simp <;> with_reducible rfl
          simp only [Act.put, List.getElem_toArray, List.getElem_cons_zero, List.getElem_cons_succ, List.setIfInBounds_toArray, List.set_cons_zero, List.set_cons_succ]
          refine wpAnyH_take (i := 2) (v := .int .i64 a1) rfl (by kernel_rfl) (by kernel_rfl) (by kernel_rfl) (fun _ _ _ h => h) (Or.inl ⟨by rfl, ?hyp2⟩) (by assumption) ?restp2
          case hyp2 => intro w hSw; obtain ⟨s1, s2, s3⟩ := hSw; go_simp <;> with_reducible rfl
          simp only [Act.put, List.getElem_toArray, List.getElem_cons_zero, List.getElem_cons_succ, List.setIfInBounds_toArray, List.set_cons_zero, List.set_cons_succ]
          refine wpAnyH_take (i := 3) (v := ?vp3) rfl (by kernel_rfl) (by kernel_rfl) (by kernel_rfl) (fun _ _ _ h => h) (Or.inl ⟨by rfl, ?hyp3⟩) (by assumption) ?restp3
          case hyp3 => intro w hSw; obtain ⟨s1, s2, s3⟩ := hSw; go_simp <;> with_reducible rfl
          simp only [Act.put, List.getElem_toArray, List.getElem_cons_zero, List.getElem_cons_succ, List.setIfInBounds_toArray, List.set_cons_zero, List.set_cons_succ]
          refine wpAnyH_take (i := 4) (v := .int .i64 a2) rfl (by kernel_rfl) (by kernel_rfl) (by kernel_rfl) (fun _ _ _ h => h) (Or.inl ⟨by rfl, ?hyp4⟩) (by assumption) ?restp4
          case hyp4 => intro w hSw; obtain ⟨s1, s2, s3⟩ := hSw; go_simp <;> with_reducible rfl
          simp only [Act.put, List.getElem_toArray, List.getElem_cons_zero, List.getElem_cons_succ, List.setIfInBounds_toArray, List.set_cons_zero, List.set_cons_succ]
          refine wpAnyH_take (i := 5) (v := .agg #[.int .i64 a1, .int .i64 a2]) rfl (by kernel_rfl) (by kernel_rfl) (by kernel_rfl) (fun _ _ _ h => h) (Or.inl ⟨by rfl, ?hyp5⟩) (by assumption) ?restp5
          case hyp5 => intro w hSw; obtain ⟨s1, s2, s3⟩ := hSw; go_simp <;> with_reducible rfl
          simp only [Act.put, List.getElem_toArray, List.getElem_cons_zero, List.getElem_cons_succ, List.setIfInBounds_toArray, List.set_cons_zero, List.set_cons_succ]
          refine wpAnyH_take (i := 6) (v := ?vp6) rfl (by kernel_rfl) (by kernel_rfl) (by kernel_rfl) (fun _ _ _ h => h) (Or.inl ⟨by rfl, ?hyp6⟩) (by assumption) ?restp6
          case hyp6 => intro w hSw; obtain ⟨s1, s2, s3⟩ := hSw; go_simp <;> with_reducible rfl
          simp only [Act.put, List.getElem_toArray, List.getElem_cons_zero, List.getElem_cons_succ, List.setIfInBounds_toArray, List.set_cons_zero, List.set_cons_succ]
          refine wpAnyH_take (i := 7) (v := .slice aoq qz.length cpq) rfl (by kernel_rfl) (by kernel_rfl) (by kernel_rfl) (fun _ _ _ h => h) (Or.inl ⟨by rfl, ?hyp7⟩) (by assumption) ?restp7
          case hyp7 => intro w hSw; obtain ⟨s1, s2, s3⟩ := hSw; go_simp <;> with_reducible rfl
          simp only [Act.put, List.getElem_toArray, List.getElem_cons_zero, List.getElem_cons_succ, List.setIfInBounds_toArray, List.set_cons_zero, List.set_cons_succ]
          refine wpAnyH_ready (rs := [8]) (by kernel_rfl) (by simp) ?_
          refine AllReadyH.cons rfl (fun K hK => ?_) AllReadyH.nil
          go_simp
          refine (unhide HCl).mono ?_
          rintro e w4 ⟨x, rfl, hox, hb4⟩
          have hsb := unhide HS3
          have hbx4 := hb4.block wr.heap.size (show wr.heap.size < w3.heap.size by omega)
          refine hK _ _ (unhide HCS w4 hbx4) ?_
          have hT5 := (unhide HT4).bel hb4
          obtain ⟨⟨ax, cx, rfl⟩, hsx⟩ := own_slice hox (Av := Av3 g h mb) (by
            obtain ⟨_, _, _, n4, n5, n6⟩ := unhide HNe
            rintro k (rfl | rfl | rfl)
            · exact Nat.lt_trans n4 hsb
            · exact Nat.lt_trans n5 hsb
            · exact Nat.lt_trans n6 hsb)
          obtain ⟨w5, hrun, ho5, hg5⟩ := hT5.own.update key53 Try.underlying50 (show nn < maxLen by unfold maxLen; omega) (key_mk (unhide HI1) (unhide HI2)) (slR_mk ax qz.length cx)
          have hT6 := hT5.put (unhide HI1) (unhide HI2) (by have := (unhide HZ).1; unfold Fl.within at this ⊢; rw [prog_n]; exact this) (unhide HZ).2.2.2.1 (unhide HZ).2.2.2.2 (unhide HZ).2.1 (unhide HBY) hsx hg5 ho5
          have hbx5 := (hg5.block wr.heap.size (Nat.lt_of_lt_of_le hsb hb4.size) (fun e => (unhide HNe).2.2.1 (Option.some.inj e))).trans hbx4
          have HT := hide hT6
          have HC5 := hide (unhide HCS w5 hbx5)
          clear hK hHeld hT5 hT6 hsx ho5 hg5 hbx5 hbx4 hsb hox hb4 HCl HCS HC3 HT4
          intro hHeld
          refine wpAnyH_ready (rs := [9]) (by kernel_rfl) (by simp) ?_
          refine AllReadyH.cons rfl (fun K hK => ?_) AllReadyH.nil
          go_simp
          refine hK _ _ (unhide HC5) ?_
          clear hK hHeld hrun
          intro hHeld
          refine wpAnyH_done (by kernel_rfl) ?_ _
          clear hHeld HC5
          have HDn := hide (down_any (unhide HT).fl)
          obtain ⟨dn, hdn⟩ : ∃ d, (F.prog a1 a2 qz).2.down = d := ⟨_, rfl⟩
          rw [hdn] at HDn
          have HDN := hide hdn
          clear hdn
          go_wp2_with fail
          refine (unhide HDn).mono ?_
          rintro e wq ⟨rfl, rfl⟩
          clear HDn
          cases dn with
          | false =>
            go_wp2
            go_roundw
            case rel => exact ⟨t + 1, _, _, (nn + 1), by omega, by go_num, unhide HT, unhide HDN, by omega⟩
            case measure => simp [intOf]; omega
          | true =>
            have HRs := hide (restart_all (unhide HT).fl)
            rw [restart_of _ (unhide HDN)] at HRs
            go_wp2_with fail
            refine (unhide HRs).mono ?_
            rintro e w6 ⟨rfl, hI6, hU6⟩
            have HT6 := hide ((unhide HT).flash hU6 hI6 rfl ⟨(unhide HT).cnt.1, (unhide HT).cnt.2⟩ (fun a b h => ⟨h, rfl⟩))
            clear hI6 hU6 HRs
            go_wp2
            go_roundw
            case rel => exact ⟨t + 1, _, _, (nn + 1), by omega, by go_num, unhide HT6, rfl, by omega⟩
            case measure => simp [intOf]; omega
        · have HT := HT3
          clear HT3 d1 d2 d5
          have HDn := hide (down_any (unhide HT).fl)
          obtain ⟨dn, hdn⟩ : ∃ d, (F.prog a1 a2 qz).2.down = d := ⟨_, rfl⟩
          rw [hdn] at HDn
          have HDN := hide hdn
          clear hdn
          go_wp2_with fail
          refine (unhide HDn).mono ?_
          rintro e wq ⟨rfl, rfl⟩
          clear HDn
          cases dn with
          | false =>
            go_wp2
            go_roundw
            case rel => exact ⟨t + 1, _, _, nn, by omega, by go_num, unhide HT, unhide HDN, by omega⟩
            case measure => simp [intOf]; omega
          | true =>
            have HRs := hide (restart_all (unhide HT).fl)
            rw [restart_of _ (unhide HDN)] at HRs
            go_wp2_with fail
            refine (unhide HRs).mono ?_
            rintro e w6 ⟨rfl, hI6, hU6⟩
            have HT6 := hide ((unhide HT).flash hU6 hI6 rfl ⟨(unhide HT).cnt.1, (unhide HT).cnt.2⟩ (fun a b h => ⟨h, rfl⟩))
            clear hI6 hU6 HRs
            go_wp2
            go_roundw
            case rel => exact ⟨t + 1, _, _, nn, by omega, by go_num, unhide HT6, rfl, by omega⟩
            case measure => simp [intOf]; omega
      by_cases e2 : a0 = 2
      · subst e2
        have HP := hide (erase_all (unhide HT1).fl (unhide HT1).cnt.1 (unhide HT1).cnt.2 a1)
        have hes := erase_sure F a1 (unhide HUP)
        obtain ⟨r, hr⟩ : ∃ r, (F.erase a1).1 = r := ⟨_, rfl⟩
        rw [hr] at HP hes
        have HES := hide hes
        clear hr hes
        go_wp2_with fail
        refine (unhide HP).mono ?_
        rintro e w3 ⟨rfl, hI3, hU3⟩
        clear HP
        by_cases hr0 : r = 0
        · subst hr0
          have HE0 := hide (SureE.start (unhide HT1) hU3 hI3 (bx := wr.heap.size) (by simp) (unhide HNe).1 (unhide HNe).2.1 (unhide HNe).2.2.1)
          clear hI3 hU3
          go_wp2
          go_loopw [82] (fun c wl => ∃ (k : Nat) (D' : DataW Value), k ≤ 16 ∧ c = .int .i64 k ∧ SureE w wl g h cap mb nn F (F.erase a1).2 D D' a1 k wr.heap.size (wr.alloc (.cells #[.int .i64 2, .int .i64 a1, .int .i64 a2, .int .i64 a3, .int .i64 a4, .slice aoq qz.length cpq] 30)).heap[wr.heap.size]?) (fun c _ => 16 - (intOf c).toNat)
          case atStart => exact ⟨0, D, by omega, rfl, unhide HE0⟩
          case round =>
            obtain ⟨k, D', hk, rfl, hE⟩ := hrel
            obtain ⟨d1, d2, d5⟩ := unhide HCell wr hE.box
            have HE := hide hE
            clear hE
            by_cases hk16 : k < 16
            · go_wp2_with (first | (at_delete; refine wpList_delete_own _ rfl _ _ 50 53 rfl 28 key53 Try.underlying50 slR mb nn _ rfl (unhide HE).own _ (kl a1 k) rfl (key_mk (unhide HI1) ⟨by omega, by omega⟩) ?_; intro w5 ho5 ht5) | fail)
              have HE5 := hide ((unhide HE).step (unhide HI1) ht5 ho5)
              clear ho5 ht5
              go_wp2
              go_roundw
              case rel => first | exact ⟨k + 1, _, by omega, by go_num, unhide HE5⟩ | ((repeat apply Exists.intro); exact ⟨⟨k + 1, _, by omega, by go_num, unhide HE5⟩, rfl⟩)
              case measure => simp [intOf]; omega
            · obtain rfl : k = 16 := by omega
              have HT := hide (unhide HE).stop
              clear HE
              have HDn := hide (down_any (unhide HT).fl)
              obtain ⟨dn, hdn⟩ : ∃ d, (F.erase a1).2.down = d := ⟨_, rfl⟩
              rw [hdn] at HDn
              have HDN := hide hdn
              clear hdn
              go_wp2_with fail
              refine (unhide HDn).mono ?_
              rintro e wq ⟨rfl, rfl⟩
              clear HDn
              cases dn with
              | false =>
                go_wp2
                go_roundw
                case rel => exact ⟨t + 1, _, _, nn, by omega, by go_num, unhide HT, unhide HDN, by omega⟩
                case measure => simp [intOf]; omega
              | true =>
                have HRs := hide (restart_all (unhide HT).fl)
                rw [restart_of _ (unhide HDN)] at HRs
                go_wp2_with fail
                refine (unhide HRs).mono ?_
                rintro e w6 ⟨rfl, hI6, hU6⟩
                have HT6 := hide ((unhide HT).flash hU6 hI6 rfl ⟨(unhide HT).cnt.1, (unhide HT).cnt.2⟩ (fun a b h => ⟨h, rfl⟩))
                clear hI6 hU6 HRs
                go_wp2
                go_roundw
                case rel => exact ⟨t + 1, _, _, nn, by omega, by go_num, unhide HT6, rfl, by omega⟩
                case measure => simp [intOf]; omega
        · have HDn := hide (down_any hI3)
          obtain ⟨dn, hdn⟩ : ∃ d, (F.erase a1).2.down = d := ⟨_, rfl⟩
          rw [hdn] at HDn
          have hes := unhide HES
          rw [hdn] at hes
          clear hdn
          cases dn with
          | true =>
            clear hes
            have HE0 := hide (SureE.start (unhide HT1) hU3 hI3 (bx := wr.heap.size) (by simp) (unhide HNe).1 (unhide HNe).2.1 (unhide HNe).2.2.1)
            clear hI3 hU3
            go_wp2_with fail
            refine (unhide HDn).mono ?_
            rintro e wq ⟨rfl, rfl⟩
            clear HDn
            go_wp2
            go_loopw [82] (fun c wl => ∃ (k : Nat) (D' : DataW Value), k ≤ 16 ∧ c = .int .i64 k ∧ SureE w wl g h cap mb nn F (F.erase a1).2 D D' a1 k wr.heap.size (wr.alloc (.cells #[.int .i64 2, .int .i64 a1, .int .i64 a2, .int .i64 a3, .int .i64 a4, .slice aoq qz.length cpq] 30)).heap[wr.heap.size]?) (fun c _ => 16 - (intOf c).toNat)
            case atStart => exact ⟨0, D, by omega, rfl, unhide HE0⟩
            case round =>
              obtain ⟨k, D', hk, rfl, hE⟩ := hrel
              obtain ⟨d1, d2, d5⟩ := unhide HCell wr hE.box
              have HE := hide hE
              clear hE
              by_cases hk16 : k < 16
              · go_wp2_with (first | (at_delete; refine wpList_delete_own _ rfl _ _ 50 53 rfl 28 key53 Try.underlying50 slR mb nn _ rfl (unhide HE).own _ (kl a1 k) rfl (key_mk (unhide HI1) ⟨by omega, by omega⟩) ?_; intro w5 ho5 ht5) | fail)
                have HE5 := hide ((unhide HE).step (unhide HI1) ht5 ho5)
                clear ho5 ht5
                go_wp2
                go_roundw
                case rel => first | exact ⟨k + 1, _, by omega, by go_num, unhide HE5⟩ | ((repeat apply Exists.intro); exact ⟨⟨k + 1, _, by omega, by go_num, unhide HE5⟩, rfl⟩)
                case measure => simp [intOf]; omega
              · obtain rfl : k = 16 := by omega
                have HT := hide (unhide HE).stop
                clear HE
                have HDn := hide (down_any (unhide HT).fl)
                obtain ⟨dn, hdn⟩ : ∃ d, (F.erase a1).2.down = d := ⟨_, rfl⟩
                rw [hdn] at HDn
                have HDN := hide hdn
                clear hdn
                go_wp2_with fail
                refine (unhide HDn).mono ?_
                rintro e wq ⟨rfl, rfl⟩
                clear HDn
                cases dn with
                | false =>
                  go_wp2
                  go_roundw
                  case rel => exact ⟨t + 1, _, _, nn, by omega, by go_num, unhide HT, unhide HDN, by omega⟩
                  case measure => simp [intOf]; omega
                | true =>
                  have HRs := hide (restart_all (unhide HT).fl)
                  rw [restart_of _ (unhide HDN)] at HRs
                  go_wp2_with fail
                  refine (unhide HRs).mono ?_
                  rintro e w6 ⟨rfl, hI6, hU6⟩
                  have HT6 := hide ((unhide HT).flash hU6 hI6 rfl ⟨(unhide HT).cnt.1, (unhide HT).cnt.2⟩ (fun a b h => ⟨h, rfl⟩))
                  clear hI6 hU6 HRs
                  go_wp2
                  go_roundw
                  case rel => exact ⟨t + 1, _, _, nn, by omega, by go_num, unhide HT6, rfl, by omega⟩
                  case measure => simp [intOf]; omega
          | false =>
            have hF : (F.erase a1).2 = F := by
              rcases hes with (e | e) | ⟨_, _, e⟩
              · exact absurd e hr0
              · cases e
              · exact e
            rw [hF] at hI3
            have HT0' := hide ((unhide HT1).flash hU3 hI3 rfl (unhide HT1).cnt (fun _ _ h => ⟨h, rfl⟩))
            clear hes hF hI3 hU3
            go_wp2_with fail
            refine (unhide HDn).mono ?_
            rintro e wq ⟨rfl, rfl⟩
            clear HDn
            have HT := HT0'
            have HDn := hide (down_any (unhide HT).fl)
            obtain ⟨dn, hdn⟩ : ∃ d, F.down = d := ⟨_, rfl⟩
            rw [hdn] at HDn
            have HDN := hide hdn
            clear hdn
            go_wp2_with fail
            refine (unhide HDn).mono ?_
            rintro e wq ⟨rfl, rfl⟩
            clear HDn
            cases dn with
            | false =>
              go_wp2
              go_roundw
              case rel => exact ⟨t + 1, _, _, nn, by omega, by go_num, unhide HT, unhide HDN, by omega⟩
              case measure => simp [intOf]; omega
            | true =>
              have HRs := hide (restart_all (unhide HT).fl)
              rw [restart_of _ (unhide HDN)] at HRs
              go_wp2_with fail
              refine (unhide HRs).mono ?_
              rintro e w6 ⟨rfl, hI6, hU6⟩
              have HT6 := hide ((unhide HT).flash hU6 hI6 rfl ⟨(unhide HT).cnt.1, (unhide HT).cnt.2⟩ (fun a b h => ⟨h, rfl⟩))
              clear hI6 hU6 HRs
              go_wp2
              go_roundw
              case rel => exact ⟨t + 1, _, _, nn, by omega, by go_num, unhide HT6, rfl, by omega⟩
              case measure => simp [intOf]; omega
      by_cases e3 : a0 = 3
      · subst e3
        have HP := hide (fuse_all (unhide HT1).fl a3 a4)
        go_wp2_with fail
        refine (unhide HP).mono ?_
        rintro e w3 ⟨rfl, hI3, hU3⟩
        have HT := hide ((unhide HT1).flash hU3 hI3 (fuse_pg F a3 a4).1 (fuse_cnt F a3 a4 (unhide HT1).cnt (unhide HI3)) (fun a b h => by rw [(fuse_pg F a3 a4).2.1, (fuse_pg F a3 a4).2.2]; exact ⟨h, rfl⟩))
        clear hI3 hU3 HP
        have HDn := hide (down_any (unhide HT).fl)
        obtain ⟨dn, hdn⟩ : ∃ d, (F.fuse a3 a4).2.down = d := ⟨_, rfl⟩
        rw [hdn] at HDn
        have HDN := hide hdn
        clear hdn
        go_wp2_with fail
        refine (unhide HDn).mono ?_
        rintro e wq ⟨rfl, rfl⟩
        clear HDn
        cases dn with
        | false =>
          go_wp2
          go_roundw
          case rel => exact ⟨t + 1, _, _, nn, by omega, by go_num, unhide HT, unhide HDN, by omega⟩
          case measure => simp [intOf]; omega
        | true =>
          have HRs := hide (restart_all (unhide HT).fl)
          rw [restart_of _ (unhide HDN)] at HRs
          go_wp2_with fail
          refine (unhide HRs).mono ?_
          rintro e w6 ⟨rfl, hI6, hU6⟩
          have HT6 := hide ((unhide HT).flash hU6 hI6 rfl ⟨(unhide HT).cnt.1, (unhide HT).cnt.2⟩ (fun a b h => ⟨h, rfl⟩))
          clear hI6 hU6 HRs
          go_wp2
          go_roundw
          case rel => exact ⟨t + 1, _, _, nn, by omega, by go_num, unhide HT6, rfl, by omega⟩
          case measure => simp [intOf]; omega
      by_cases e4 : a0 = 4
      · subst e4
        have HP := hide (crash_all (unhide HT1).fl)
        go_wp2_with fail
        refine (unhide HP).mono ?_
        rintro e w3 ⟨rfl, hI3, hU3⟩
        have HT := hide ((unhide HT1).flash hU3 hI3 (crash_pg F).1 (crash_cnt F (unhide HT1).cnt) (fun a b h => by rw [(crash_pg F).2.1, (crash_pg F).2.2]; exact ⟨h, rfl⟩))
        clear hI3 hU3 HP
        have HDn := hide (down_any (unhide HT).fl)
        obtain ⟨dn, hdn⟩ : ∃ d, F.crash.2.down = d := ⟨_, rfl⟩
        rw [hdn] at HDn
        have HDN := hide hdn
        clear hdn
        go_wp2_with fail
        refine (unhide HDn).mono ?_
        rintro e wq ⟨rfl, rfl⟩
        clear HDn
        cases dn with
        | false =>
          go_wp2
          go_roundw
          case rel => exact ⟨t + 1, _, _, nn, by omega, by go_num, unhide HT, unhide HDN, by omega⟩
          case measure => simp [intOf]; omega
        | true =>
          have HRs := hide (restart_all (unhide HT).fl)
          rw [restart_of _ (unhide HDN)] at HRs
          go_wp2_with fail
          refine (unhide HRs).mono ?_
          rintro e w6 ⟨rfl, hI6, hU6⟩
          have HT6 := hide ((unhide HT).flash hU6 hI6 rfl ⟨(unhide HT).cnt.1, (unhide HT).cnt.2⟩ (fun a b h => ⟨h, rfl⟩))
          clear hI6 hU6 HRs
          go_wp2
          go_roundw
          case rel => exact ⟨t + 1, _, _, nn, by omega, by go_num, unhide HT6, rfl, by omega⟩
          case measure => simp [intOf]; omega
      have HT := HT1
      have HDn := hide (down_any (unhide HT).fl)
      obtain ⟨dn, hdn⟩ : ∃ d, F.down = d := ⟨_, rfl⟩
      rw [hdn] at HDn
      have HDN := hide hdn
      clear hdn
      go_wp2_with fail
      refine (unhide HDn).mono ?_
      rintro e wq ⟨rfl, rfl⟩
      clear HDn
      cases dn with
      | false =>
        go_wp2
        go_roundw
        case rel => exact ⟨t + 1, _, _, nn, by omega, by go_num, unhide HT, unhide HDN, by omega⟩
        case measure => simp [intOf]; omega
      | true =>
        have HRs := hide (restart_all (unhide HT).fl)
        rw [restart_of _ (unhide HDN)] at HRs
        go_wp2_with fail
        refine (unhide HRs).mono ?_
        rintro e w6 ⟨rfl, hI6, hU6⟩
        have HT6 := hide ((unhide HT).flash hU6 hI6 rfl ⟨(unhide HT).cnt.1, (unhide HT).cnt.2⟩ (fun a b h => ⟨h, rfl⟩))
        clear hI6 hU6 HRs
        go_wp2
        go_roundw
        case rel => exact ⟨t + 1, _, _, nn, by omega, by go_num, unhide HT6, rfl, by omega⟩
        case measure => simp [intOf]; omega
    · obtain ⟨wE, hwE⟩ : ∃ W, W = wr := ⟨_, rfl⟩
      subst hwE
      have HT := hide hT
      have HUP := hide hup
      clear hT hup
      obtain ⟨RS, hRS⟩ : ∃ n, wE.heap.size = n := ⟨_, rfl⟩
      go_wp2_with (first | (at_range; refine wpList_range_own _ rfl _ 50 rfl 53 28 key53 Try.underlying50 slR mb nn D rfl (unhide HT).own ?_; intro w0 hrg0 hg0 hs0; rw [hRS] at hrg0 ⊢) | fail)
      have HRG0 := hide hrg0
      have HB0 : Hid (Below RS wE w0) := ⟨hg0.os, hg0.tape, hg0.output, hg0.size, fun k hk => hg0.block k (by omega) (by simp)⟩
      have HRS := hide hRS
      clear hrg0 hg0 hs0 hRS
      go_frame
      go_loopw [113] (fun _ wl => ∃ (left : Lit → Bool) (cnt : Nat), wl.ranges Try.prog 53 slR mb RS nn D left cnt ∧ Below RS wE wl) (fun _ wl => wl.rangeLeft mb RS)
      case atStart => exact ⟨_, _, unhide HRG0, unhide HB0⟩
      case round =>
        obtain ⟨left, cnt, hrg, hb⟩ := hrel
        have HB := hide hb
        have HRG := hide hrg
        clear hb hrg
        go_wp2_with (first | (at_next; refine wpList_next_ranges _ rfl _ rfl 53 key53 slR (fun x : Int × Int => .agg #[.int .i64 x.1, .int .i64 x.2]) (fun x : Option Addr × Nat × Nat => .slice x.1 x.2.1 x.2.2) (fun key l hk => by obtain ⟨a, b, e, _⟩ := key_inv hk; exact ⟨(a, b), e⟩) (fun v y hv => slR_inv hv) mb RS nn D left cnt rfl (unhide HRG) ?_ ?_) | fail)
        · intro hc0 hl0
          clear hl0
          go_wp2
          go_ret
          exact ⟨rfl, (unhide HT).below.trans ((unhide HB).mono (by have := (unhide HT).below.size; have := unhide HRS; omega))⟩
        · intro ka kb ba bl bc l y1 y2 w3 cnt3 hkey hlk hv hat hrg3 hlt3 hg3 hs3 hen
          obtain ⟨a, b, e, ia, ib, rfl⟩ := key_inv hkey
          simp only [Value.agg.injEq, Array.mk.injEq, List.cons.injEq, Value.int.injEq, true_and, and_true] at e
          obtain ⟨rfl, rfl⟩ := e
          have hhas := Maps.has_true_of_atKey hat
          obtain ⟨i, j, rfl, rfl, hi, hj, hst, v, zs, hat2, hsee, hby, hl, hbs⟩ := (unhide HT).kept _ _ ia ib hhas
          have hve : v = .slice ba bl bc := by
            have e1 := (hat .nil).symm.trans (hat2 .nil)
            rw [slR_mk] at hv
            cases hv
            simpa using e1.symm
          subst hve
          obtain rfl : bl = zs.length := by
            obtain ⟨_, _, e, _⟩ := hsee.1
            simp only [Value.slice.injEq] at e
            exact e.2.1
          have hsz := (unhide HB).size
          have hrs := unhide HRS
          have hB3 : Below RS wE w3 := (unhide HB).trans ((upd_of_grown hg3).below (by omega) (fun k hk e => by omega))
          have hB4 : Below RS wE (w3.alloc (.cells #[.int .i64 i, .int .i64 j] 53)) := hB3.alloc (by omega) _
          have hre := readE_of (unhide HUP) hi hj hst
          have hrb := readB_of hre hbs hby
          have HRd := hide (read_all ((unhide HT).fl.below (hrs ▸ hB4)) i j)
          rw [hre, hrb] at HRd
          have HRG4 := hide (hrg3.alloc (.cells #[.int .i64 i, .int .i64 j] 53))
          have HB4 := hide hB4
          have HSee : Hid (∀ w', Below RS wE w' → Sees w' .u8 (.slice ba zs.length bc) zs) := fun w' hb => hsee.1.below (hrs ▸ hb)
          have HL := hide hl
          have HLt := hide hlt3
          clear hkey hlk hv hat hat2 hrg3 hlt3 hg3 hs3 hhas hsee hbs hre hrb hB3 hB4 hst hsz hrs ia ib HRG0 HB0
          go_wp2_with fail
          refine (unhide HRd).mono ?_
          rintro e w4 ⟨xv, rfl, hsx, hb4⟩
          obtain ⟨ax, cx, rfl, hcx, _⟩ := id hsx
          rw [pageL_length hl] at hsx hcx ⊢
          have hB5 : Below RS wE w4 := (unhide HB4).trans (hb4.mono (by have := (unhide HB4).size; have := unhide HRS; omega))
          have HEq := hide (equal_any _ _ zs zs w4 (sees_front hl hsx) (unhide HSee w4 hB5) hby hby)
          rw [decide_eq_true rfl] at HEq
          have HB5 := hide hB5
          have HRG5 := hide ((unhide HRG4).kept (row := none) ⟨hb4.os, hb4.tape, hb4.output, hb4.size, fun k hk _ => hb4.block k hk⟩ (by simp) (by simp))
          clear hsx hb4 hB5 HRd HB4 HRG4
          go_wp2_with fail
          refine (unhide HEq).mono ?_
          rintro e wq ⟨rfl, rfl⟩
          clear HEq
          go_wp2
          go_roundw
          case rel => exact ⟨_, _, unhide HRG5, unhide HB5⟩
          case measure => rw [(unhide HRG5).left_eq, (unhide HRG).left_eq]; exact unhide HLt
end Go.Proofs.Yteehhbgjjamjiaa
