/- insert: a node more, on its levels. -/
import Derived.Test.YtdcmkapfcmibeaaDoorM7
import Derived.LaidEqlPtr
namespace Go.Proofs.YtdcmkapfcmibeaaDoor
open Go.RowKit Go.Shelf
attribute [local go_sem] Oper.semAt_some
set_option maxRecDepth 100000

theorem Tryd.isSize85 : (Tryd.prog.info? 85).map (·.size) = some 13 := by kernel_rfl
theorem eqP_same (q : Nat) (w : World) : (binOp .eql 71 (PN q) (PN q)).run Tryd.prog w = .ok (.bool true) w := by
  obtain ⟨j, hj, _⟩ := Option.map_eq_some_iff.1 Tryd.isSize85
  exact run_eql_ptr_same (P := Tryd.prog) w _ Tryd.underlying71 hj
theorem eqP_other {q r : Nat} {w : World} {ca cb : Array Value} {ta tb : TypeId} (hne : q ≠ r) (ha : w.heap[q]? = some (.cells ca ta)) (hb : w.heap[r]? = some (.cells cb tb)) : (binOp .eql 71 (PN q) (PN r)).run Tryd.prog w = .ok (.bool false) w := by
  obtain ⟨j, hj, hjs⟩ := Option.map_eq_some_iff.1 Tryd.isSize85
  exact run_eql_ptr_other (P := Tryd.prog) w Tryd.underlying71 hj (by rw [hjs]; decide) (fun e => hne (by simpa using congrArg Addr.block e)) ha hb
def insN (N : Nat → Nat → Value) (xp : Nat) (la : Nat → Nat) (i : Nat) : Nat → Nat → Value := fun p lev =>
  if lev < i then (if p = xp then N (la lev) lev else if p = la lev then PN xp else N p lev) else if p = xp then nilP else N p lev
def insL (Ll la : Nat → Nat) (xp i : Nat) : Nat → Nat := fun lev => if lev < i ∧ Ll lev = la lev then xp else Ll lev
theorem insN_step (N : Nat → Nat → Value) (xp : Nat) (la : Nat → Nat) (i : Nat) (h : la i ≠ xp) : setN (setN (insN N xp la i) xp i (N (la i) i)) (la i) i (PN xp) = insN N xp la (i + 1) := by
  funext p lev
  unfold setN insN
  by_cases c : lev = i
  · subst c
    by_cases d : p = la lev
    · subst d; simp [h]
    · by_cases e : p = xp
      · subst e; simp [d]
      · simp [d, e]
  · have c1 : (lev < i + 1) ↔ lev < i := by omega
    simp [c, c1]
theorem insL_yes (Ll la : Nat → Nat) (xp i : Nat) (h : Ll i = la i) : setF (insL Ll la xp i) i xp = insL Ll la xp (i + 1) := by
  funext lev
  unfold setF insL
  by_cases c : lev = i
  · subst c; simp [h]
  · have c1 : (lev < i + 1) ↔ lev < i := by omega
    simp [c, c1]
theorem insL_no (Ll la : Nat → Nat) (xp i : Nat) (h : Ll i ≠ la i) : insL Ll la xp i = insL Ll la xp (i + 1) := by
  funext lev
  unfold insL
  by_cases c : lev = i
  · subst c; simp [h]
  · have c1 : (lev < i + 1) ↔ lev < i := by omega
    simp [c1]
/-- Behind what stands ahead none is on the level, just if the last one stays the last. -/
theorem lstP_free {q q' lev : Nat} {B : List Nd} (h : lstP q lev B ≠ q) (ha : Apart q B) : lstP q' lev B = lstP q lev B := by
  induction B generalizing q q' with
  | nil => exact absurd rfl h
  | cons n r ih =>
    rw [lstP] at h ⊢
    rw [lstP]
    by_cases c : lev < n.h
    · rw [if_pos c, if_pos c]
    · rw [if_neg c] at h ⊢
      rw [if_neg c]
      exact ih h ha.skip
theorem insL_end {hd : Nat} {A B : List Nd} {x : Nd} (ha : Apart hd (A ++ B)) (lev : Nat) : insL (fun lev => lstP hd lev (A ++ B)) (fun lev => lstP hd lev A) x.p x.h lev = lstP hd lev (A ++ x :: B) := by
  unfold insL
  simp only [lstP_append]
  rw [lstP]
  by_cases c : lev < x.h
  · rw [if_pos c]
    by_cases d : lstP (lstP hd lev A) lev B = lstP hd lev A
    · rw [if_pos ⟨c, d⟩]
      -- none of B is on the level
      have hlow : ∀ n ∈ B, n.h ≤ lev := by
        intro n hn
        by_cases e : n.h ≤ lev
        · exact e
        · exfalso
          rcases lstP_mem (lstP hd lev A) lev B with _ | ⟨m, hm, e1, _⟩
          · obtain ⟨B1, B2, rfl⟩ := List.append_of_mem hn
            rw [lstP_append, lstP, if_pos (by omega)] at d
            have hr := ha.rest (lev := lev)
            rcases lstP_mem n.p lev B2 with e2 | ⟨m, hm, e2, _⟩
            · exact hr.ne (n := n) (by simp) (e2.symm.trans d)
            · exact hr.ne (n := m) (by simp [hm]) (e2.trans d)
          · exact (ha.rest (lev := lev)).ne hm (e1.trans d)
      rw [lstP_low hlow]
    · rw [if_neg fun e => d e.2]
      exact (lstP_free d (ha.rest (lev := lev))).symm
  · rw [if_neg c, if_neg fun e => c e.1]
theorem Apart.insert {hd : Nat} {A B : List Nd} {x : Nd} (ha : Apart hd (A ++ B)) (h : x.p ≠ hd) (hn : ∀ n ∈ A ++ B, n.p ≠ x.p) : Apart hd (A ++ x :: B) := by
  unfold Apart at *
  refine (List.Perm.nodup_iff ?_).2 (List.nodup_cons.2 ⟨?_, ha⟩ : (x.p :: hd :: (A ++ B).map (·.p)).Nodup)
  · refine List.Perm.trans (List.Perm.cons _ ?_) (List.Perm.swap _ _ _)
    exact List.perm_middle.map _
  · intro c
    rcases List.mem_cons.1 c with c | c
    · exact h c
    · obtain ⟨n, hn', e⟩ := List.mem_map.1 c
      exact hn n hn' e
theorem fstP_ptr (lev : Nat) (B : List Nd) : ∃ o, fstP lev B = .pointer o := by
  induction B with
  | nil => exact ⟨none, rfl⟩
  | cons n r ih =>
    rw [fstP]
    by_cases c : lev < n.h
    · rw [if_pos c]; exact ⟨_, rfl⟩
    · rw [if_neg c]; exact ih
/-- Where insert stands, i levels behind it. -/
structure Ins (w : World) (sb hd n0 : Nat) (L : List Nd) (x : Nd) (N : Nat → Nat → Value) (la : Nat → Nat) (luck : Int) (i : Nat) (wr : World) : Prop where
  box : wr.heap[n0]? = some (.cells (arr8 fun lev => PN (la lev)) 73)
  mem : SkM wr sb hd (x :: L) (insN N x.p la i) (insL (fun lev => lstP hd lev L) la x.p i) L.length luck
  upd : Upd (Bl sb hd L) n0 w wr

set_option maxHeartbeats 1000000 in
theorem insert_any {w : World} {b0 sb hd : Nat} {A B : List Nd} {luck : Int} (h : Sk w b0 sb hd (A ++ B) luck) (x : Nd) (hxp : x.p = w.heap.size + 2) (hok : OkN x) (hA : ∀ n ∈ A, ltK n.k x.k) (hB : ∀ n ∈ B, ltK x.k n.k) (hlen : (A ++ B).length < 1048576) :
    Calls Tryd.prog 47 #[PN sb, .agg #[PN (lstP hd 0 A), PN (lstP hd 1 A), PN (lstP hd 2 A), PN (lstP hd 3 A), PN (lstP hd 4 A), PN (lstP hd 5 A), PN (lstP hd 6 A), PN (lstP hd 7 A)], .agg #[.int .i32 x.k.1, .int .i64 x.k.2, .int .i64 x.v, .int .i64 x.s], .int .i64 x.h] w fun e w' => e = .returned (.tuple #[]) ∧ Sk w' b0 sb hd (A ++ x :: B) luck ∧ Upd (Bl sb hd (A ++ B)) w.heap.size w w' := by
  obtain ⟨N, hm, hlk⟩ := h.mem
  obtain ⟨L, hL⟩ : ∃ L, A ++ B = L := ⟨_, rfl⟩
  have hAp := h.apart
  rw [hL] at h hm hlk hlen hAp ⊢
  obtain ⟨n0, hn0⟩ : ∃ n0, w.heap.size = n0 := ⟨_, rfl⟩
  obtain ⟨W1, hW1⟩ : ∃ W1, (w.alloc (.cells #[PN (lstP hd 0 A), PN (lstP hd 1 A), PN (lstP hd 2 A), PN (lstP hd 3 A), PN (lstP hd 4 A), PN (lstP hd 5 A), PN (lstP hd 6 A), PN (lstP hd 7 A)] 73)).alloc (.cells #[.int .i32 x.k.1, .int .i64 x.k.2, .int .i64 x.v, .int .i64 x.s] 32) = W1 := ⟨_, rfl⟩
  obtain ⟨W2, hW2⟩ : ∃ W2, W1.alloc (.cells #[.int .i32 x.k.1, .int .i64 x.k.2, .int .i64 x.v, .int .i64 x.s, .int .i64 x.h, nilP, nilP, nilP, nilP, nilP, nilP, nilP, nilP] 85) = W2 := ⟨_, rfl⟩
  have hs1 : W1.heap.size = n0 + 2 := by rw [← hW1, ← hn0]; simp
  have hlt : ∀ {k}, Bl sb hd L k → k < n0 := fun hk => by rw [← hn0]; exact h.lt hk
  replace hxp : x.p = n0 + 2 := by rw [hxp, hn0]
  have hb2 : Below n0 w W2 := by rw [← hW2, ← hW1, ← hn0]; exact (((Below.refl _ _).alloc (Nat.le_refl _) _).alloc (by simp) _).alloc (by simp; omega) _
  have I0 : Ins w sb hd n0 L x N (fun lev => lstP hd lev A) luck 0 W2 := by
    have hm2 := hm.keep (w' := W2) fun k hk => hb2.block k (hlt hk)
    have e0 : ∀ {p}, p ≠ x.p → insN N x.p (fun lev => lstP hd lev A) 0 p = N p := fun {p} hp => by funext lev; simp [insN, hp]
    refine ⟨?_, ⟨?_, ?_, fun n hn => ?_⟩, Upd.of hb2⟩
    · rw [← hW2, Below.heap_alloc _ _ _ (by omega), ← hW1, Below.heap_alloc _ _ _ (by simp; omega), ← hn0]; exact heap_new1 _ _
    · have : insL (fun lev => lstP hd lev L) (fun lev => lstP hd lev A) x.p 0 = fun lev => lstP hd lev L := by funext lev; simp [insL]
      rw [this]; exact hm2.sk
    · rw [e0 (by have := hlt (k := hd) (.inr (.inl rfl)); omega)]; exact hm2.head
    · rcases List.mem_cons.1 hn with rfl | hn
      · rw [← hW2, hxp, ← hs1, heap_new1]
        have : insN N W1.heap.size (fun lev => lstP hd lev A) 0 W1.heap.size = fun _ => nilP := by funext lev; simp [insN]
        rw [hs1] at this ⊢
        rw [this]; rfl
      · rw [e0 (by have := hlt (k := n.p) (.inr (.inr ⟨n, hn, rfl⟩)); omega)]; exact hm2.node n hn
  have hApx : Apart hd (x :: L) := by
    have := Apart.insert (A := []) (B := L) (x := x) hAp (by have := hlt (k := hd) (.inr (.inl rfl)); omega) (fun n hn => by have := hlt (k := n.p) (.inr (.inr ⟨n, hn, rfl⟩)); omega)
    exact this
  have hh := hok.h
  have c1 : W1.cell? ⟨n0 + 1, 0, none⟩ = some (.int .i32 x.k.1) ∧ W1.cell? ⟨n0 + 1, 1, none⟩ = some (.int .i64 x.k.2) ∧ W1.cell? ⟨n0 + 1, 2, none⟩ = some (.int .i64 x.v) ∧ W1.cell? ⟨n0 + 1, 3, none⟩ = some (.int .i64 x.s) := by
    rw [← hW1, ← hn0]
    exact ⟨cell_at (heap_new2 _ _ _), cell_at (heap_new2 _ _ _), cell_at (heap_new2 _ _ _), cell_at (heap_new2 _ _ _)⟩
  obtain ⟨d0, d1, d2, d3⟩ := c1
  have HI := hide I0
  have HX := hide (And.intro h (And.intro hlk (And.intro hL (And.intro hA hB))))
  rw [hn0]
  have hx2 : W1.heap.size = x.p := by rw [hs1, hxp]
  have HH := hide (And.intro hAp (And.intro hApx (And.intro hok hlen)))
  have HLT : Hid (∀ {k}, Bl sb hd L k → k < n0) := hlt
  have HXP := hide hxp
  clear h hlk hL hA hB I0 hAp hApx hok hlen hm hb2 hlt hs1 hxp
  go_enter Tryd.func47, Tryd.ntmps47
  go_wp2
  clear d0 d1 d2 d3 hW1 hW2 hx2
  go_loopw [15] (fun t wr => ∃ i : Nat, i ≤ x.h ∧ t = .int .i64 i ∧ Ins w sb hd n0 L x N (fun lev => lstP hd lev A) luck i wr) (fun t _ => x.h - (intOf t).toNat)
  case atStart => exact ⟨0, Nat.zero_le _, rfl, unhide HI⟩
  case round =>
    clear HI
    obtain ⟨i, hi, rfl, hI⟩ := hrel
    by_cases hlt : i < x.h
    · have hdb : decide ((i : Int) < x.h) = true := by simp; omega
      have hi0 : (0 : Int) ≤ (i : Int) := by omega
      have hi8 : (i : Int) < 8 := by omega
      have hn8 : i < 8 := by omega
      obtain ⟨hSk, hlk, hL, _, _⟩ := unhide HX
      obtain ⟨hAp, hApx, _, _⟩ := unhide HH
      obtain ⟨q, hq⟩ : ∃ q, lstP hd i A = q := ⟨_, rfl⟩
      have hqL : On hd L q := by rw [← hq, ← hL]; exact lstP_on _ _
      have hqx : q ≠ x.p := by
        rcases hqL with rfl | ⟨n, hn, rfl⟩
        · exact fun e => hApx.ne (n := x) (by simp) e.symm
        · exact hApx.tail.ne hn
      have hqon : On hd (x :: L) q := by
        rcases hqL with rfl | ⟨n, hn, rfl⟩
        · exact .inl rfl
        · exact .inr ⟨n, List.mem_cons_of_mem _ hn, rfl⟩
      have hxon : On hd (x :: L) x.p := .inr ⟨x, by simp, rfl⟩
      have hv : N q i = fstP i B := by
        have := hlk i hn8
        rw [← hL] at this
        rw [← hq]
        exact this.rest.first
      have hmem := hI.mem
      have hbox := hI.box
      have a0 : wr.cell? ⟨n0, i, none⟩ = some (PN q) := by rw [cell_at hbox, arr8_get _ hn8, hq]
      have e1 : insN N x.p (fun lev => lstP hd lev A) i q i = N q i := by simp [insN, hqx]
      have e2 : insN N x.p (fun lev => lstP hd lev A) i x.p i = nilP := by simp [insN]
      have g0 := hmem.next hqon hn8
      rw [e1] at g0
      have x0 := hmem.next hxon hn8
      rw [e2] at x0
      have xf : wr.frozen? ⟨x.p, 5 + i, none⟩ = false := hmem.frozenN hxon
      -- the worlds behind the stores
      have m1 := hmem.setNext hApx hxon hn8 (N q i)
      have m2 := m1.setNext hApx hqon hn8 (PN x.p)
      have hst := insN_step N x.p (fun lev => lstP hd lev A) i (by rw [hq]; exact hqx)
      simp only [hq] at hst
      rw [hst] at m2
      obtain ⟨v, hv0⟩ : ∃ v, N q i = .pointer v := by rw [hv]; exact fstP_ptr _ _
      rw [hv0] at g0 m1 m2
      obtain ⟨Y1, hY1⟩ : ∃ Y, (wr.setCell ⟨x.p, 5 + i, none⟩ (.pointer v)).drew = Y := ⟨_, rfl⟩
      have hY1' := hide hY1
      have n1 := m1.keep (w' := Y1) (fun _ _ => by rw [← hY1]; rfl)
      have n2 := m2.keep (w' := Y1.setCell ⟨q, 5 + i, none⟩ (PN x.p)) (fun k _ => by rw [← hY1]; rfl)
      have hne0 : ∀ {r}, On hd (x :: L) r → r ≠ n0 := fun {r} hr e => by
        obtain ⟨n, _, h1⟩ := hmem.on hr
        rw [e, hbox] at h1
        simp at h1
      have hsb0 : sb ≠ n0 := fun e => by have := hmem.sk; rw [e, hbox] at this; simp at this
      have b1 : Y1.heap[n0]? = some (.cells (arr8 fun lev => PN (lstP hd lev A)) 73) := by
        rw [← hY1]; exact (Below.heap_setCell _ _ _ _ (hne0 hxon).symm).trans hbox
      have a1 : Y1.cell? ⟨n0, i, none⟩ = some (PN q) := by rw [cell_at b1, arr8_get _ hn8, hq]
      have q1 : ∃ u, Y1.cell? ⟨q, 5 + i, none⟩ = some u := ⟨_, n1.next hqon hn8⟩
      have qf : Y1.frozen? ⟨q, 5 + i, none⟩ = false := n1.frozenN hqon
      obtain ⟨Y2, hY2⟩ : ∃ Y, Y1.setCell ⟨q, 5 + i, none⟩ (PN x.p) = Y := ⟨_, rfl⟩
      rw [hY2] at n2
      have b2 : Y2.heap[n0]? = some (.cells (arr8 fun lev => PN (lstP hd lev A)) 73) := by
        rw [← hY2]; exact (Below.heap_setCell _ _ _ _ (hne0 hqon).symm).trans b1
      have a2 : Y2.cell? ⟨n0, i, none⟩ = some (PN q) := by rw [cell_at b2, arr8_get _ hn8, hq]
      have l2 := n2.last hn8
      have eL : insL (fun lev => lstP hd lev L) (fun lev => lstP hd lev A) x.p i i = lstP hd i L := by simp [insL]
      rw [eL] at l2
      have lf : Y2.frozen? ⟨sb, 1 + i, none⟩ = false := n2.frozenS
      have hup2 : Upd (Bl sb hd L) n0 w Y2 := by
        have hxn : n0 ≤ x.p := by rw [unhide HXP]; omega
        have hq' : Bl sb hd L q := .inr (by rcases hqL with e | e; exact .inl e; exact .inr e)
        rw [← hY2, ← hY1]
        exact ((hI.upd.setCell (p := ⟨x.p, 5 + i, none⟩) (.inr hxn) _).drew).setCell (p := ⟨q, 5 + i, none⟩) (.inl hq') _
      obtain ⟨r, hr⟩ : ∃ r, lstP hd i L = r := ⟨_, rfl⟩
      rw [hr] at l2
      obtain ⟨i1, hi1⟩ : ∃ i1, i + 1 = i1 := ⟨_, rfl⟩
      have hwi : IntKind.i64.wrap ((i : Int) + 1) = (i1 : Int) := by rw [wrap_i64 _ (by omega) (by omega)]; omega
      have hm1 : x.h - i1 < x.h - i := by omega
      have hle1 : i1 ≤ x.h := by omega
      rw [hi1] at n2
      have HN2 := hide (And.intro n2 (And.intro b2 hup2))
      have HQ := hide (And.intro hq (And.intro hr (And.intro hi1 hsb0)))
      have HY2 := hide hY2
      obtain ⟨u1, q1⟩ := q1
      clear hI hmem hbox hSk hlk hL hAp hqL e1 e2 hst hv m1 m2 n1 n2 hY1 hY2 b1 b2 hup2 eL hne0 hsb0 hqx hqon hxon hv0 hq hr hi1 hlt hi hApx
      go_wp2
      go_region
      rw [unhide hY1']
      clear x0 xf g0 a0
      go_wp2
      try rw [unhide HY2]
      clear a1 q1 qf
      by_cases hrq : r = q
      · subst hrq
        have hE := eqP_same r Y2.drew
        obtain ⟨Y3, hY3⟩ : ∃ Y, (Y2.setCell ⟨sb, 1 + i, none⟩ (PN x.p)).drew = Y := ⟨_, rfl⟩
        have HY3 := hide hY3
        clear hY3
        go_region
        go_wp2
        go_roundw
        case rel =>
          obtain ⟨n2, b2, hup2⟩ := unhide HN2
          obtain ⟨hq, hr, hi1, hsb0⟩ := unhide HQ
          refine ⟨i1, hle1, rfl, ?_, ?_, ?_⟩
          · exact (Below.heap_setCell _ _ _ _ hsb0.symm).trans b2
          · have n3 := n2.setLast hn8 x.p
            have hst := insL_yes (fun lev => lstP hd lev L) (fun lev => lstP hd lev A) x.p i (by rw [hr, hq])
            rw [hst, hi1] at n3
            exact n3.keep fun _ _ => rfl
          · exact (hup2.setCell (p := ⟨sb, 1 + i, none⟩) (.inl (.inl rfl)) _).drew
        case measure => simpa [intOf] using hm1
      · have hE : (binOp .eql 71 (PN r) (PN q)).run Tryd.prog Y2.drew = .ok (.bool false) Y2.drew := by
          obtain ⟨n2, b2, hup2⟩ := unhide HN2
          obtain ⟨hq, hr, hi1, hsb0⟩ := unhide HQ
          obtain ⟨_, _, hL, _, _⟩ := unhide HX
          have o1 : On hd (x :: L) r := by
            rcases lstP_mem hd i L with e | ⟨n, hn, e, _⟩
            · exact .inl (hr.symm.trans e)
            · exact .inr ⟨n, List.mem_cons_of_mem _ hn, e.trans hr⟩
          have o2 : On hd (x :: L) q := by
            rcases lstP_mem hd i A with e | ⟨n, hn, e, _⟩
            · exact .inl (hq.symm.trans e)
            · exact .inr ⟨n, List.mem_cons_of_mem _ (by rw [← hL]; exact List.mem_append_left _ hn), e.trans hq⟩
          obtain ⟨_, _, h1⟩ := n2.on o1
          obtain ⟨_, _, h2⟩ := n2.on o2
          exact eqP_other (w := Y2.drew) hrq h1 h2
        go_region
        go_wp2
        go_roundw
        case rel =>
          obtain ⟨n2, b2, hup2⟩ := unhide HN2
          obtain ⟨hq, hr, hi1, hsb0⟩ := unhide HQ
          refine ⟨i1, hle1, rfl, b2, ?_, hup2.drew⟩
          have hst := insL_no (fun lev => lstP hd lev L) (fun lev => lstP hd lev A) x.p i (by rw [hr, hq]; exact hrq)
          rw [hst, hi1] at n2
          exact n2.keep fun _ _ => rfl
        case measure => simpa [intOf] using hm1
    · obtain rfl : i = x.h := by omega
      have hmem := hI.mem
      have m9 : wr.cell? ⟨sb, 9, none⟩ = some (.int .i64 (L.length : Int)) := cell_at hmem.sk
      have m9f : wr.frozen? ⟨sb, 9, none⟩ = false := hmem.frozenS
      obtain ⟨hSk, hlk, hL, hA, hB⟩ := unhide HX
      obtain ⟨hAp, hApx, hok, hlen⟩ := unhide HH
      obtain ⟨c, hc⟩ : ∃ c : Int, (L.length : Int) = c := ⟨_, rfl⟩
      obtain ⟨c1, hc1⟩ : ∃ c1 : Int, c + 1 = c1 := ⟨_, rfl⟩
      have hwc : IntKind.i64.wrap (c + 1) = c1 := by rw [wrap_i64 _ (by omega) (by omega)]; exact hc1
      rw [hc] at m9
      have hfin : Sk (wr.setCell ⟨sb, 9, none⟩ (.int .i64 c1)) b0 sb hd (A ++ x :: B) luck := by
        have hxh : x.p ≠ hd := hApx.ne (n := x) (by simp)
        have hxn : ∀ n ∈ A ++ B, n.p ≠ x.p := fun n hn => hApx.tail.ne (by rw [← hL]; exact hn)
        have hm1 := hmem.setMany c1
        refine ⟨⟨insN N x.p (fun lev => lstP hd lev A) x.h, ?_, fun lev hlev => ?_⟩, ?_, ?_, ?_, ?_, ?_, hSk.lk⟩
        · have e1 : (fun lev => lstP hd lev (A ++ x :: B)) = insL (fun lev => lstP hd lev L) (fun lev => lstP hd lev A) x.p x.h := by
            funext lev
            rw [← hL] at hAp ⊢
            exact (insL_end hAp lev).symm
          have e2 : ((A ++ x :: B).length : Int) = c1 := by rw [← hc1, ← hc, ← hL]; simp; omega
          rw [e1, e2]
          exact ⟨hm1.sk, hm1.head, fun n hn => hm1.node n (by
            rw [← hL]
            rcases List.mem_append.1 hn with h1 | h1
            · simp [h1]
            · rcases List.mem_cons.1 h1 with h1 | h1 <;> simp [h1])⟩
        · have h0 := hlk lev hlev
          rw [← hL] at h0 hAp
          refine h0.insert hAp hxh hxn (fun c' => ⟨?_, ?_⟩) (fun c' => ?_) (fun y hy hy2 => ?_)
          · have : lstP hd lev A ≠ x.p := by
              rcases lstP_mem hd lev A with e | ⟨n, hn, e, _⟩
              · rw [e]; exact hxh.symm
              · rw [← e]; exact hxn n (List.mem_append_left _ hn)
            simp [insN, c', this]
          · simp only [insN, c', if_true]
            exact h0.rest.first
          · simp [insN, show ¬ lev < x.h by omega]
          · by_cases c' : lev < x.h
            · simp [insN, c', hy, hy2 c']
            · simp [insN, c', hy]
        · have hr := hSk.rise
          rw [← hL] at hr
          refine List.pairwise_append.2 ⟨(List.pairwise_append.1 hr).1, List.pairwise_cons.2 ⟨hB, (List.pairwise_append.1 hr).2.1⟩, fun a ha b hb => ?_⟩
          rcases List.mem_cons.1 hb with rfl | hb
          · exact hA a ha
          · exact (List.pairwise_append.1 hr).2.2 a ha b hb
        · rw [← hL] at hAp
          exact hAp.insert hxh hxn
        · intro n hn
          rcases List.mem_append.1 hn with h1 | h1
          · exact hSk.ok n (by rw [← hL]; exact List.mem_append_left _ h1)
          · rcases List.mem_cons.1 h1 with rfl | h1
            · exact hok
            · exact hSk.ok n (by rw [← hL]; exact List.mem_append_right _ h1)
        · rw [← hL] at hlen
          simp only [List.length_append, List.length_cons] at hlen ⊢
          omega
        · rintro k (rfl | rfl | ⟨n, hn, rfl⟩)
          · exact hSk.from_ _ (.inl rfl)
          · exact hSk.from_ _ (.inr (.inl rfl))
          · rcases List.mem_append.1 hn with h1 | h1
            · exact hSk.from_ _ (.inr (.inr ⟨n, by rw [← hL]; exact List.mem_append_left _ h1, rfl⟩))
            · rcases List.mem_cons.1 h1 with rfl | h1
              · have h2 := hSk.from_ _ (.inl rfl)
                have h3 : sb < n0 := by rw [← hn0]; exact hSk.lt (.inl rfl)
                rw [unhide HXP]; omega
              · exact hSk.from_ _ (.inr (.inr ⟨n, by rw [← hL]; exact List.mem_append_right _ h1, rfl⟩))
      have hupd : Upd (Bl sb hd L) n0 w (wr.setCell ⟨sb, 9, none⟩ (.int .i64 c1)) := hI.upd.setCell (p := ⟨sb, 9, none⟩) (.inl (.inl rfl)) _
      have HFI := hide (And.intro hfin hupd)
      clear hfin hupd hmem hI hSk hlk hL hA hB hAp hApx hok hlen hc hc1 hi hlt HX HH HLT
      go_wp2

      go_end0
      exact ⟨rfl, (unhide HFI).1, (unhide HFI).2⟩
end Go.Proofs.YtdcmkapfcmibeaaDoor
