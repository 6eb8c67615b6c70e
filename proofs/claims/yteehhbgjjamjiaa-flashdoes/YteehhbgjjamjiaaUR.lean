/- FlashDoes: the walk. -/
import Derived.Test.YteehhbgjjamjiaaUQ
import Derived.Test.YteehhbgjjamjiaaUC
import Derived.Test.YteehhbgjjamjiaaN1
namespace Go.Proofs.Yteehhbgjjamjiaa
open Go.RowKit

theorem op_low {w : World} {o : OpV} (h : OpOk w o) : ∀ p l c, o.b = .slice (some p) l c → p.block < w.heap.size ∨ o.zs = [] := by
  intro p l c e
  by_cases hz : o.zs = []
  · exact .inr hz
  · obtain ⟨ao, cap, e', _, _, ha⟩ := h.sees
    rw [e] at e'
    cases e'
    have hc := ha p rfl 0 (List.length_pos_iff.2 hz)
    have hb := World.block_lt_of_cell? w _ hc
    have : (p.add 0).block = p.block := by (unfold Addr.add; split <;> simp_all)
    rw [this] at hb
    exact .inl hb

theorem Pairs.wider {n₀ n₁ : Nat} {A : World} (h : n₀ ≤ n₁) {sv : Value} {len : Nat} {f g : Nat → Int} : Pairs n₀ A sv len f g → Pairs n₁ A sv len f g
  | .inl e => .inl e
  | .inr ⟨b, off, cap, e, hl, hb, h0, h1⟩ => .inr ⟨b, off, cap, e, hl, Nat.lt_of_lt_of_le hb h, h0, h1⟩

/-- told, of two lists of the same pairs. -/
theorem told_both {w w2 : World} {Bs b1 b2 e1 e2 : Nat} {lv : Value} {ax : Option Addr} {cx : Nat} {l : List (Int × Int)} (hc : w.cell? ⟨Bs, 0, none⟩ = some lv) (ho : w.ownsRow b1 e1 2 lv l.length (pairCells l)) (hr : w2.ownsRow b2 e2 2 (.slice ax l.length cx) l.length (pairCells l)) (hb : Below w.heap.size w w2) (hl : l.length ≤ 140737488351232) :
    Calls Try.prog 17 #[.func (.func 45) #[] #[.pointer (some ⟨Bs, 0, none⟩)], .slice ax l.length cx] w2 fun e w' => e = .returned (.bool true) ∧ Below w2.heap.size w2 w' := by
  have hp := ((pairs_of_own ho).below hb).wider hb.size
  have hc2 : w2.cell? ⟨Bs, 0, none⟩ = some lv := (hb.cell (p := ⟨Bs, 0, none⟩) (World.block_lt_of_cell? w _ hc)).trans hc
  rcases pairs_of_own hr with ⟨e, h0⟩ | ⟨b, off, cap, e, hle, _, h0, h1⟩
  · simp only [Value.slice.injEq] at e
    obtain ⟨_, _, rfl⟩ := e
    exact told_any Bs l.length _ _ lv ax 0 0 0 w2 hl hc2 hp (by omega) (fun h => absurd h (by omega)) (fun j hj => absurd hj (by omega)) (fun j hj => absurd hj (by omega))
  · simp only [Value.slice.injEq, true_and] at e
    obtain ⟨rfl, rfl⟩ := e
    exact told_any Bs l.length _ _ lv _ cx b off w2 hl hc2 hp hle (fun _ => rfl) h0 h1

set_option maxRecDepth 100000 in
set_option maxHeartbeats 1600000 in
theorem flashDoes_arg (n : Int) (sv : Value) (w : World) (h : ¬ (1 ≤ n ∧ n ≤ 1024)) :
    Calls Try.prog 3 #[.int .i64 n, sv] w fun e w' => e = .returned (.bool true) ∧ Below w.heap.size w w' := by
  go_enter Try.func3, Try.ntmps3
  go_wp2_with fail
  refine (pair_arg n w h).mono ?_
  rintro e w1 ⟨rfl, rfl⟩
  go_wp2_with fail
  refine (begun_any w).mono ?_
  rintro e w1 ⟨rfl, hb1⟩
  have HB := hide hb1
  clear hb1
  go_wp2_with fail
  refine (begun_any w1).mono ?_
  rintro e w2 ⟨rfl, hb2⟩
  have HB2 := hide hb2
  clear hb2
  go_wp2
  go_ret
  exact ⟨rfl, (unhide HB).trans ((unhide HB2).mono (unhide HB).size)⟩

set_option maxRecDepth 100000 in
set_option maxHeartbeats 6400000 in
theorem flashDoes_ok (n : Nat) (h1 : 1 ≤ n) (h2 : n ≤ 1024) (sv : Value) (m : Nat) (os : Nat → OpV) (w : World) (hs : SeesOps w sv m os) :
    Calls Try.prog 3 #[.int .i64 n, sv] w fun e w' => e = .returned (.bool true) ∧ Below w.heap.size w w' := by
  have HS : Hid (∀ w', Below w.heap.size w w' → SeesOps w' sv m os) := fun w' hb => hs.below hb
  have HLow : Hid (∀ t, t < m → ∀ p l c, (os t).b = .slice (some p) l c → p.block < w.heap.size ∨ (os t).zs = []) := fun t ht => by
    obtain ⟨_, _, _, _, _, _, _, _, h5⟩ := hs
    exact op_low (h5 t ht).1
  obtain ⟨ao, cap0, _, _, rfl, hcap, hmax, _⟩ := id hs
  clear hs
  go_enter Try.func3, Try.ntmps3
  go_wp2_with fail
  refine (pair_ok n w h1 h2).mono ?_
  rintro e w1 ⟨g, h, cap, hr, gp, gw, cp, cw, pb, cb, bv, B1, rfl, hI, hR, hgB, hhB, hg, hh, hB1, hb1⟩
  have hJ : Jt w1 w.heap.size g h cap hr gp gw cp cw (fun k => k < B1 ∧ k < w1.heap.size) (Fl.blank n) := ⟨hI, ⟨_, _, _, _, hR.widen _ (fun k _ c => c.1)⟩, fun k hk => hk.2, ⟨hgB, hI.glt⟩, ⟨hhB, hI.hlt⟩, fun k hk => ⟨by omega, Nat.lt_of_lt_of_le hk hb1.size⟩, hg, hh⟩
  have HJ := hide hJ; have HB1 := hide hb1
  clear hJ hb1 hI hR
  go_wp2_with fail
  refine (begun_any w1).mono ?_
  rintro e w2 ⟨rfl, hb2⟩
  have HJ2 := hide ((unhide HJ).below hb2)
  have HB2 : Hid (Below w.heap.size w w2) := (unhide HB1).trans (hb2.mono (unhide HB1).size)
  clear hb2 HJ HB1
  go_wp2
  go_loopw [5, 32] (fun f c wr => ∃ t : Nat, t ≤ m ∧ c = .int .i64 t ∧ ∃ g h cap S F, f = P0 h ∧ Jt wr w.heap.size g h cap hr gp gw cp cw S F ∧ Below w.heap.size w wr) (fun _ c _ => m - (intOf c).toNat)
  case atStart => exact ⟨0, by omega, rfl, g, h, cap, _, _, rfl, unhide HJ2, unhide HB2⟩
  case round =>
    obtain ⟨t, ht, rfl, g, h, cap, S, F, rfl, hJ, hB⟩ := hrel
    by_cases hlt : t < m
    · obtain ⟨ao', cap', gb, ob, hv, _, _, hao, hcl⟩ := unhide HS wr hB
      simp only [Value.slice.injEq, true_and] at hv
      obtain ⟨rfl, rfl⟩ := hv
      obtain rfl := hao (by omega)
      obtain ⟨hok, c0, c1, c2, c3, c4, c5⟩ := hcl t hlt
      have hlow := unhide HLow t hlt
      obtain ⟨q, hq⟩ : ∃ q, os t = q := ⟨_, rfl⟩
      rw [hq] at hok c0 c1 c2 c3 c4 c5 hlow
      clear hcl hao hq
      have hb0 : Below wr.heap.size wr (wr.alloc (.cells #[.int .i64 q.act, .int .i64 q.blk, .int .i64 q.pag, .int .i64 q.at_, .int .i64 q.kep, q.b] 30)) := (Below.refl _ _).alloc (Nat.le_refl _) _
      have hJb := hJ.below hb0
      have hsz := hB.size
      have HST := hide (step_any hJb (by simp; omega) q (hok.below hb0) hlow)
      have HBw : Hid (Below w.heap.size w (wr.alloc (.cells #[.int .i64 q.act, .int .i64 q.blk, .int .i64 q.pag, .int .i64 q.at_, .int .i64 q.kep, q.b] 30))) := hB.trans (hb0.mono hsz)
      obtain ⟨qa, qc, hqb, _⟩ := hok.sees
      obtain ⟨a0, a1, a2, a3, a4, qb, qz⟩ := q
      simp only at hqb
      subst hqb
      simp only [OpV.agg] at c0 c1 c2 c3 c4 c5 HST HBw
      have HG : Hid (g < wr.heap.size ∧ h < wr.heap.size ∧ hr < wr.heap.size ∧ gp < wr.heap.size ∧ gw < wr.heap.size) := by obtain ⟨_, _, _, _, HR⟩ := hJ.rf; exact ⟨hJ.fl.glt, hJ.fl.hlt, HR.rlt.1, HR.rlt.2.1, HR.rlt.2.2.1⟩
      have HAP : Hid (∀ k, k < w.heap.size → ¬ StepB g h hr gp gw k) := by
        rintro k hk ((rfl | rfl) | c)
        · exact absurd hJ.bg (by omega)
        · exact absurd hJ.bh (by omega)
        · exact hJ.apart k (hJ.low k hk) c
      have HSZ := hide hsz
      clear hJ hB hb0 hJb hok hlow hsz
      go_wp2_with fail
      refine (unhide HST).mono ?_
      rintro e w3 ⟨g1, h1, cap1, S1, F1, rfl, hJ1, hU⟩
      have hsz := unhide HSZ
      have hB3 : Below w.heap.size w w3 := (unhide HBw).trans (hU.below (by simp; omega) (unhide HAP))
      have hbox : w3.cell? ⟨wr.heap.size, 1, none⟩ = some (.int .i64 a1) := by
        obtain ⟨q1, q2, q3, q4, q5⟩ := unhide HG
        rw [hU.cell (p := ⟨wr.heap.size, 1, none⟩) (by simp) (by rintro ((c | c) | (c | c | c)) <;> simp only at c <;> omega), World.cell?_alloc_new]; rfl
      obtain ⟨pb1, cb1, bv1, kp1, hR1⟩ := hJ1.rf
      have hd3 : Below w3.heap.size w3 w3.drew := (Below.refl _ _).drew
      have hJd := hJ1.below hd3
      have hRd := hR1.below hd3
      have hcd := hRd.c4
      have HD := hide (down_any hJd.fl)
      have HWe := hide (fwear_any hJd.fl a1)
      have HWr := hide (rwear_any hRd a1)
      have HUs := hide (fused_any hJd.fl a1)
      have HRu : Hid (∀ wq, Below w3.drew.heap.size w3.drew wq → Calls Try.prog 15 #[P0 hr, .int .i64 a1] wq fun e w' => e = .returned (.int .i64 (F1.usedE a1)) ∧ wq = w') := fun wq hb => rused_any (hRd.below hb) a1
      have HSs : Hid (∀ wq, Below w3.drew.heap.size w3.drew wq → wq.cell? ⟨hr, 4, none⟩ = some (.bool F1.down) ∧ wq.cell? ⟨wr.heap.size, 1, none⟩ = some (.int .i64 a1)) := fun wq hb => ⟨(hRd.below hb).c4, (hb.cell (p := ⟨wr.heap.size, 1, none⟩) (World.block_lt_of_cell? w3 _ hbox)).trans hbox⟩
      have HJ3 := hide hJd
      have HB3 : Hid (Below w.heap.size w w3.drew) := hB3.trans (hd3.mono hB3.size)
      have HSw := hide (unhide HSs w3.drew (Below.refl _ _))
      clear HST HBw hB3 hbox hR1 hd3 hJd hRd hcd hJ1 hU hsz HAP HG HSZ
      go_wp2_with fail
      refine wp_region_held_drew (S := fun w' => w'.cell? ⟨hr, 4, none⟩ = some (.bool F1.down) ∧ w'.cell? ⟨wr.heap.size, 1, none⟩ = some (.int .i64 a1)) (by kernel_rfl) (unhide HSw) (fun hHeld => ?_)
      refine wpAnyH_take (i := 0) (v := .bool true) rfl (by kernel_rfl) (by kernel_rfl) (by kernel_rfl) (fun _ _ _ h => h) (Or.inl ⟨by rfl, ?hy0⟩) (by assumption) ?rest0
      case hy0 => intro w hSw; obtain ⟨s1, s2⟩ := hSw; go_simp <;> with_reducible rfl
      simp only [Act.put, List.getElem_toArray, List.getElem_cons_zero, List.setIfInBounds_toArray, List.set_cons_zero, List.set_cons_succ]
      refine wpAnyH_take (i := 1) (v := .bool false) rfl (by kernel_rfl) (by kernel_rfl) (by kernel_rfl) (fun _ _ _ h => h) (Or.inl ⟨by rfl, ?hy1⟩) (by assumption) ?rest1
      case hy1 => intro w hSw; obtain ⟨s1, s2⟩ := hSw; go_simp <;> with_reducible rfl
      simp only [Act.put, List.getElem_toArray, List.getElem_cons_zero, List.getElem_cons_succ, List.setIfInBounds_toArray, List.set_cons_zero, List.set_cons_succ]
      refine wpAnyH_take (i := 2) (v := .bool false) rfl (by kernel_rfl) (by kernel_rfl) (by kernel_rfl) (fun _ _ _ h => h) (Or.inl ⟨by rfl, ?hy2⟩) (by assumption) ?rest2
      case hy2 => intro w hSw; obtain ⟨s1, s2⟩ := hSw; go_simp <;> with_reducible rfl
      simp only [Act.put, List.getElem_toArray, List.getElem_cons_zero, List.getElem_cons_succ, List.setIfInBounds_toArray, List.set_cons_zero, List.set_cons_succ]
      refine wpAnyH_take (i := 3) (v := ?v3) rfl (by kernel_rfl) (by kernel_rfl) (by kernel_rfl) (fun _ _ _ h => h) (Or.inl ⟨by rfl, ?hy3⟩) (by assumption) ?rest3
      case hy3 => intro w hSw; obtain ⟨s1, s2⟩ := hSw; go_simp <;> with_reducible rfl
      simp only [Act.put, List.getElem_toArray, List.getElem_cons_zero, List.getElem_cons_succ, List.setIfInBounds_toArray, List.set_cons_zero, List.set_cons_succ]
      refine wpAnyH_take (i := 5) (v := ?v5) rfl (by kernel_rfl) (by kernel_rfl) (by kernel_rfl) (fun _ _ _ h => h) (Or.inl ⟨by rfl, ?hy5⟩) (by assumption) ?rest5
      case hy5 => intro w hSw; obtain ⟨s1, s2⟩ := hSw; go_simp <;> with_reducible rfl
      simp only [Act.put, List.getElem_toArray, List.getElem_cons_zero, List.getElem_cons_succ, List.setIfInBounds_toArray, List.set_cons_zero, List.set_cons_succ]
      refine wpAnyH_take (i := 6) (v := ?v6) rfl (by kernel_rfl) (by kernel_rfl) (by kernel_rfl) (fun _ _ _ h => h) (Or.inl ⟨by rfl, ?hy6⟩) (by assumption) ?rest6
      case hy6 => intro w hSw; obtain ⟨s1, s2⟩ := hSw; go_simp <;> with_reducible rfl
      simp only [Act.put, List.getElem_toArray, List.getElem_cons_zero, List.getElem_cons_succ, List.setIfInBounds_toArray, List.set_cons_zero, List.set_cons_succ]
      refine wpAnyH_take (i := 7) (v := ?v7) rfl (by kernel_rfl) (by kernel_rfl) (by kernel_rfl) (fun _ _ _ h => h) (Or.inl ⟨by rfl, ?hy7⟩) (by assumption) ?rest7
      case hy7 => intro w hSw; obtain ⟨s1, s2⟩ := hSw; go_simp <;> with_reducible rfl
      simp only [Act.put, List.getElem_toArray, List.getElem_cons_zero, List.getElem_cons_succ, List.setIfInBounds_toArray, List.set_cons_zero, List.set_cons_succ]
      refine wpAnyH_take (i := 8) (v := (.bool F1.down)) rfl (by kernel_rfl) (by kernel_rfl) (by kernel_rfl) (fun _ _ _ h => h) (Or.inl ⟨by rfl, ?hy8⟩) (by assumption) ?rest8
      case hy8 => intro w hSw; obtain ⟨s1, s2⟩ := hSw; go_simp <;> with_reducible rfl
      simp only [Act.put, List.getElem_toArray, List.getElem_cons_zero, List.getElem_cons_succ, List.setIfInBounds_toArray, List.set_cons_zero, List.set_cons_succ]
      refine wpAnyH_ready (rs := [4]) (by kernel_rfl) (by simp) ?_
      refine AllReadyH.cons rfl (fun K hK => ?_) AllReadyH.nil
      go_simp
      refine (unhide HD).mono ?_
      rintro e wq ⟨rfl, rfl⟩
      refine hK _ _ (by assumption) ?_
      clear hK hHeld
      intro hHeld
      refine wpAnyH_take (i := 9) (v := .bool false) rfl (by kernel_rfl) (by kernel_rfl) (by kernel_rfl) (fun _ _ _ h => h) (Or.inl ⟨by rfl, ?hy9⟩) (by assumption) ?rest9
      case hy9 => intro w hSw; obtain ⟨s1, s2⟩ := hSw; go_simp <;> with_reducible rfl
      simp only [Act.put, List.getElem_toArray, List.getElem_cons_zero, List.getElem_cons_succ, List.setIfInBounds_toArray, List.set_cons_zero, List.set_cons_succ]
      refine wpAnyH_take (i := 10) (v := .bool false) rfl (by kernel_rfl) (by kernel_rfl) (by kernel_rfl) (fun _ _ _ h => h) (Or.inl ⟨by rfl, ?hy10⟩) (by assumption) ?rest10
      case hy10 => intro w hSw; obtain ⟨s1, s2⟩ := hSw; go_simp <;> with_reducible rfl
      simp only [Act.put, List.getElem_toArray, List.getElem_cons_zero, List.getElem_cons_succ, List.setIfInBounds_toArray, List.set_cons_zero, List.set_cons_succ]
      refine wpAnyH_take (i := 11) (v := .bool false) rfl (by kernel_rfl) (by kernel_rfl) (by kernel_rfl) (fun _ _ _ h => h) (Or.inl ⟨by rfl, ?hy11⟩) (by assumption) ?rest11
      case hy11 => intro w hSw; obtain ⟨s1, s2⟩ := hSw; go_simp <;> with_reducible rfl
      simp only [Act.put, List.getElem_toArray, List.getElem_cons_zero, List.getElem_cons_succ, List.setIfInBounds_toArray, List.set_cons_zero, List.set_cons_succ]
      refine wpAnyH_take (i := 12) (v := ?v12) rfl (by kernel_rfl) (by kernel_rfl) (by kernel_rfl) (fun _ _ _ h => h) (Or.inl ⟨by rfl, ?hy12⟩) (by assumption) ?rest12
      case hy12 => intro w hSw; obtain ⟨s1, s2⟩ := hSw; go_simp <;> with_reducible rfl
      simp only [Act.put, List.getElem_toArray, List.getElem_cons_zero, List.getElem_cons_succ, List.setIfInBounds_toArray, List.set_cons_zero, List.set_cons_succ]
      refine wpAnyH_take (i := 13) (v := ?v13) rfl (by kernel_rfl) (by kernel_rfl) (by kernel_rfl) (fun _ _ _ h => h) (Or.inl ⟨by rfl, ?hy13⟩) (by assumption) ?rest13
      case hy13 => intro w hSw; obtain ⟨s1, s2⟩ := hSw; go_simp <;> with_reducible rfl
      simp only [Act.put, List.getElem_toArray, List.getElem_cons_zero, List.getElem_cons_succ, List.setIfInBounds_toArray, List.set_cons_zero, List.set_cons_succ]
      refine wpAnyH_take (i := 14) (v := .int .i64 a1) rfl (by kernel_rfl) (by kernel_rfl) (by kernel_rfl) (fun _ _ _ h => h) (Or.inl ⟨by rfl, ?hy14⟩) (by assumption) ?rest14
      case hy14 => intro w hSw; obtain ⟨s1, s2⟩ := hSw; go_simp <;> with_reducible rfl
      simp only [Act.put, List.getElem_toArray, List.getElem_cons_zero, List.getElem_cons_succ, List.setIfInBounds_toArray, List.set_cons_zero, List.set_cons_succ]
      refine wpAnyH_take (i := 16) (v := ?v16) rfl (by kernel_rfl) (by kernel_rfl) (by kernel_rfl) (fun _ _ _ h => h) (Or.inl ⟨by rfl, ?hy16⟩) (by assumption) ?rest16
      case hy16 => intro w hSw; obtain ⟨s1, s2⟩ := hSw; go_simp <;> with_reducible rfl
      simp only [Act.put, List.getElem_toArray, List.getElem_cons_zero, List.getElem_cons_succ, List.setIfInBounds_toArray, List.set_cons_zero, List.set_cons_succ]
      refine wpAnyH_take (i := 17) (v := ?v17) rfl (by kernel_rfl) (by kernel_rfl) (by kernel_rfl) (fun _ _ _ h => h) (Or.inl ⟨by rfl, ?hy17⟩) (by assumption) ?rest17
      case hy17 => intro w hSw; obtain ⟨s1, s2⟩ := hSw; go_simp <;> with_reducible rfl
      simp only [Act.put, List.getElem_toArray, List.getElem_cons_zero, List.getElem_cons_succ, List.setIfInBounds_toArray, List.set_cons_zero, List.set_cons_succ]
      refine wpAnyH_take (i := 18) (v := .int .i64 a1) rfl (by kernel_rfl) (by kernel_rfl) (by kernel_rfl) (fun _ _ _ h => h) (Or.inl ⟨by rfl, ?hy18⟩) (by assumption) ?rest18
      case hy18 => intro w hSw; obtain ⟨s1, s2⟩ := hSw; go_simp <;> with_reducible rfl
      simp only [Act.put, List.getElem_toArray, List.getElem_cons_zero, List.getElem_cons_succ, List.setIfInBounds_toArray, List.set_cons_zero, List.set_cons_succ]
      refine wpAnyH_ready (rs := [15]) (by kernel_rfl) (by simp) ?_
      refine AllReadyH.cons rfl (fun K hK => ?_) AllReadyH.nil
      go_simp
      refine (unhide HWe).mono ?_
      rintro e wq ⟨rfl, rfl⟩
      refine hK _ _ (by assumption) ?_
      clear hK hHeld
      intro hHeld
      refine wpAnyH_ready (rs := [19]) (by kernel_rfl) (by simp) ?_
      refine AllReadyH.cons rfl (fun K hK => ?_) AllReadyH.nil
      go_simp
      refine (unhide HWr).mono ?_
      rintro e wq ⟨rfl, rfl⟩
      refine hK _ _ (by assumption) ?_
      clear hK hHeld
      intro hHeld
      refine wpAnyH_take (i := 20) (v := .bool false) rfl (by kernel_rfl) (by kernel_rfl) (by kernel_rfl) (fun _ _ _ h => h) (Or.inl ⟨by rfl, ?hy20⟩) (by assumption) ?rest20
      case hy20 => intro w hSw; obtain ⟨s1, s2⟩ := hSw; go_simp <;> with_reducible rfl
      simp only [Act.put, List.getElem_toArray, List.getElem_cons_zero, List.getElem_cons_succ, List.setIfInBounds_toArray, List.set_cons_zero, List.set_cons_succ]
      refine wpAnyH_take (i := 21) (v := .bool false) rfl (by kernel_rfl) (by kernel_rfl) (by kernel_rfl) (fun _ _ _ h => h) (Or.inl ⟨by rfl, ?hy21⟩) (by assumption) ?rest21
      case hy21 => intro w hSw; obtain ⟨s1, s2⟩ := hSw; go_simp <;> with_reducible rfl
      simp only [Act.put, List.getElem_toArray, List.getElem_cons_zero, List.getElem_cons_succ, List.setIfInBounds_toArray, List.set_cons_zero, List.set_cons_succ]
      refine wpAnyH_take (i := 22) (v := .bool false) rfl (by kernel_rfl) (by kernel_rfl) (by kernel_rfl) (fun _ _ _ h => h) (Or.inl ⟨by rfl, ?hy22⟩) (by assumption) ?rest22
      case hy22 => intro w hSw; obtain ⟨s1, s2⟩ := hSw; go_simp <;> with_reducible rfl
      simp only [Act.put, List.getElem_toArray, List.getElem_cons_zero, List.getElem_cons_succ, List.setIfInBounds_toArray, List.set_cons_zero, List.set_cons_succ]
      refine wpAnyH_take (i := 23) (v := ?v23) rfl (by kernel_rfl) (by kernel_rfl) (by kernel_rfl) (fun _ _ _ h => h) (Or.inl ⟨by rfl, ?hy23⟩) (by assumption) ?rest23
      case hy23 => intro w hSw; obtain ⟨s1, s2⟩ := hSw; go_simp <;> with_reducible rfl
      simp only [Act.put, List.getElem_toArray, List.getElem_cons_zero, List.getElem_cons_succ, List.setIfInBounds_toArray, List.set_cons_zero, List.set_cons_succ]
      refine wpAnyH_take (i := 24) (v := ?v24) rfl (by kernel_rfl) (by kernel_rfl) (by kernel_rfl) (fun _ _ _ h => h) (Or.inl ⟨by rfl, ?hy24⟩) (by assumption) ?rest24
      case hy24 => intro w hSw; obtain ⟨s1, s2⟩ := hSw; go_simp <;> with_reducible rfl
      simp only [Act.put, List.getElem_toArray, List.getElem_cons_zero, List.getElem_cons_succ, List.setIfInBounds_toArray, List.set_cons_zero, List.set_cons_succ]
      refine wpAnyH_take (i := 25) (v := .int .i64 a1) rfl (by kernel_rfl) (by kernel_rfl) (by kernel_rfl) (fun _ _ _ h => h) (Or.inl ⟨by rfl, ?hy25⟩) (by assumption) ?rest25
      case hy25 => intro w hSw; obtain ⟨s1, s2⟩ := hSw; go_simp <;> with_reducible rfl
      simp only [Act.put, List.getElem_toArray, List.getElem_cons_zero, List.getElem_cons_succ, List.setIfInBounds_toArray, List.set_cons_zero, List.set_cons_succ]
      refine wpAnyH_take (i := 27) (v := ?v27) rfl (by kernel_rfl) (by kernel_rfl) (by kernel_rfl) (fun _ _ _ h => h) (Or.inl ⟨by rfl, ?hy27⟩) (by assumption) ?rest27
      case hy27 => intro w hSw; obtain ⟨s1, s2⟩ := hSw; go_simp <;> with_reducible rfl
      simp only [Act.put, List.getElem_toArray, List.getElem_cons_zero, List.getElem_cons_succ, List.setIfInBounds_toArray, List.set_cons_zero, List.set_cons_succ]
      refine wpAnyH_take (i := 28) (v := ?v28) rfl (by kernel_rfl) (by kernel_rfl) (by kernel_rfl) (fun _ _ _ h => h) (Or.inl ⟨by rfl, ?hy28⟩) (by assumption) ?rest28
      case hy28 => intro w hSw; obtain ⟨s1, s2⟩ := hSw; go_simp <;> with_reducible rfl
      simp only [Act.put, List.getElem_toArray, List.getElem_cons_zero, List.getElem_cons_succ, List.setIfInBounds_toArray, List.set_cons_zero, List.set_cons_succ]
      refine wpAnyH_take (i := 29) (v := .int .i64 a1) rfl (by kernel_rfl) (by kernel_rfl) (by kernel_rfl) (fun _ _ _ h => h) (Or.inl ⟨by rfl, ?hy29⟩) (by assumption) ?rest29
      case hy29 => intro w hSw; obtain ⟨s1, s2⟩ := hSw; go_simp <;> with_reducible rfl
      simp only [Act.put, List.getElem_toArray, List.getElem_cons_zero, List.getElem_cons_succ, List.setIfInBounds_toArray, List.set_cons_zero, List.set_cons_succ]
      refine wpAnyH_ready (rs := [26]) (by kernel_rfl) (by simp) ?_
      refine AllReadyH.cons rfl (fun K hK => ?_) AllReadyH.nil
      go_simp
      refine (unhide HUs).mono ?_
      rintro e wq ⟨rfl, hbq⟩
      refine hK _ _ (unhide HSs wq hbq) ?_
      clear hK hHeld
      have HUr := hide (unhide HRu wq hbq)
      have HBQ := hide hbq
      clear hbq
      intro hHeld
      refine wpAnyH_ready (rs := [30]) (by kernel_rfl) (by simp) ?_
      refine AllReadyH.cons rfl (fun K hK => ?_) AllReadyH.nil
      go_simp
      refine (unhide HUr).mono ?_
      rintro e wq ⟨rfl, rfl⟩
      refine hK _ _ (by assumption) ?_
      clear hK hHeld
      intro hHeld
      refine wpAnyH_take (i := 31) (v := .bool false) rfl (by kernel_rfl) (by kernel_rfl) (by kernel_rfl) (fun _ _ _ h => h) (Or.inl ⟨by rfl, ?hy31⟩) (by assumption) ?rest31
      case hy31 => intro w hSw; obtain ⟨s1, s2⟩ := hSw; go_simp <;> with_reducible rfl
      simp only [Act.put, List.getElem_toArray, List.getElem_cons_zero, List.getElem_cons_succ, List.setIfInBounds_toArray, List.set_cons_zero, List.set_cons_succ]
      refine wpAnyH_take (i := 32) (v := .bool false) rfl (by kernel_rfl) (by kernel_rfl) (by kernel_rfl) (fun _ _ _ h => h) (Or.inl ⟨by rfl, ?hy32⟩) (by assumption) ?rest32
      case hy32 => intro w hSw; obtain ⟨s1, s2⟩ := hSw; go_simp <;> with_reducible rfl
      simp only [Act.put, List.getElem_toArray, List.getElem_cons_zero, List.getElem_cons_succ, List.setIfInBounds_toArray, List.set_cons_zero, List.set_cons_succ]
      refine wpAnyH_done (by kernel_rfl) ?_ _
      go_wp2
      go_roundw
      case rel =>
        have hb := unhide HBQ
        exact ⟨t + 1, by omega, by go_num, g1, h1, cap1, S1, F1, rfl, (unhide HJ3).below hb, (unhide HB3).trans (hb.mono (unhide HB3).size)⟩
      case measure => simp [intOf]; omega
    · have hd3 : Below wr.heap.size wr wr.drew := (Below.refl _ _).drew
      have hJd := hJ.below hd3
      obtain ⟨pb1, cb1, bv1, kp1, hRd⟩ := hJd.rf
      have HBk := hide (blocks_any hJd.fl)
      have HL := hide (flist_any hJd.fl)
      have HRu : Hid (∀ wq, Below wr.drew.heap.size wr.drew wq → Calls Try.prog 19 #[P0 hr] wq fun e w' => ∃ x, e = .returned x ∧ w'.ownsRow wq.heap.size 53 2 x (allU F.st F.n).length (pairCells (allU F.st F.n)) ∧ Below wq.heap.size wq w') := fun wq hb => rall_any (hRd.below hb)
      have HSs : Hid (∀ wq, Below wr.drew.heap.size wr.drew wq → wq.cell? ⟨hr, 0, none⟩ = some (.slice (some ⟨gp, 0, none⟩) F.n cp)) := fun wq hb => (hRd.below hb).c0
      have HLe : Hid ((allU F.st F.n).length ≤ 140737488351232) := by have := allU_le F.st F.n; have := hRd.le; show _ ≤ _; omega
      have HB := hide hB
      have HSw := hide (unhide HSs wr.drew (Below.refl _ _))
      clear hJ hB hd3 hJd hRd
      go_wp2_with fail
      refine wp_region_held_drew (S := fun w' => w'.cell? ⟨hr, 0, none⟩ = some (.slice (some ⟨gp, 0, none⟩) F.n cp)) (by kernel_rfl) (unhide HSw) (fun hHeld => ?_)
      refine wpAnyH_take (i := 0) (v := ?vb0) rfl (by kernel_rfl) (by kernel_rfl) (by kernel_rfl) (fun _ _ _ h => h) (Or.inl ⟨by rfl, ?hyb0⟩) (by assumption) ?restb0
      case hyb0 => intro w hSw; go_simp <;> with_reducible rfl
      simp only [Act.put, List.getElem_toArray, List.getElem_cons_zero, List.setIfInBounds_toArray, List.set_cons_zero, List.set_cons_succ]
      refine wpAnyH_take (i := 2) (v := ?vb2) rfl (by kernel_rfl) (by kernel_rfl) (by kernel_rfl) (fun _ _ _ h => h) (Or.inl ⟨by rfl, ?hyb2⟩) (by assumption) ?restb2
      case hyb2 => intro w hSw; go_simp <;> with_reducible rfl
      simp only [Act.put, List.getElem_toArray, List.getElem_cons_zero, List.getElem_cons_succ, List.setIfInBounds_toArray, List.set_cons_zero, List.set_cons_succ]
      refine wpAnyH_take (i := 3) (v := ?vb3) rfl (by kernel_rfl) (by kernel_rfl) (by kernel_rfl) (fun _ _ _ h => h) (Or.inl ⟨by rfl, ?hyb3⟩) (by assumption) ?restb3
      case hyb3 => intro w hSw; go_simp <;> with_reducible rfl
      simp only [Act.put, List.getElem_toArray, List.getElem_cons_zero, List.getElem_cons_succ, List.setIfInBounds_toArray, List.set_cons_zero, List.set_cons_succ]
      refine wpAnyH_take (i := 4) (v := ?vb4) rfl (by kernel_rfl) (by kernel_rfl) (by kernel_rfl) (fun _ _ _ h => h) (Or.inl ⟨by rfl, ?hyb4⟩) (by assumption) ?restb4
      case hyb4 => intro w hSw; go_simp <;> with_reducible rfl
      simp only [Act.put, List.getElem_toArray, List.getElem_cons_zero, List.getElem_cons_succ, List.setIfInBounds_toArray, List.set_cons_zero, List.set_cons_succ]
      refine wpAnyH_take (i := 5) (v := .slice (some ⟨gp, 0, none⟩) F.n cp) rfl (by kernel_rfl) (by kernel_rfl) (by kernel_rfl) (fun _ _ _ h => h) (Or.inl ⟨by rfl, ?hyb5⟩) (by assumption) ?restb5
      case hyb5 => intro w hSw; go_simp <;> with_reducible rfl
      simp only [Act.put, List.getElem_toArray, List.getElem_cons_zero, List.getElem_cons_succ, List.setIfInBounds_toArray, List.set_cons_zero, List.set_cons_succ]
      refine wpAnyH_take (i := 6) (v := .int .i64 F.n) rfl (by kernel_rfl) (by kernel_rfl) (by kernel_rfl) (fun _ _ _ h => h) (Or.inl ⟨by rfl, ?hyb6⟩) (by assumption) ?restb6
      case hyb6 => intro w hSw; go_simp <;> with_reducible rfl
      simp only [Act.put, List.getElem_toArray, List.getElem_cons_zero, List.getElem_cons_succ, List.setIfInBounds_toArray, List.set_cons_zero, List.set_cons_succ]
      refine wpAnyH_ready (rs := [1]) (by kernel_rfl) (by simp) ?_
      refine AllReadyH.cons rfl (fun K hK => ?_) AllReadyH.nil
      go_simp
      refine (unhide HBk).mono ?_
      rintro e wq ⟨rfl, rfl⟩
      refine hK _ _ (by assumption) ?_
      clear hK hHeld
      intro hHeld
      refine wpAnyH_take (i := 7) (v := .bool true) rfl (by kernel_rfl) (by kernel_rfl) (by kernel_rfl) (fun _ _ _ h => h) (Or.inl ⟨by rfl, ?hyb7⟩) (by assumption) ?restb7
      case hyb7 => intro w hSw; go_simp <;> with_reducible rfl
      simp only [Act.put, List.getElem_toArray, List.getElem_cons_zero, List.getElem_cons_succ, List.setIfInBounds_toArray, List.set_cons_zero, List.set_cons_succ]
      refine wpAnyH_take (i := 8) (v := .bool true) rfl (by kernel_rfl) (by kernel_rfl) (by kernel_rfl) (fun _ _ _ h => h) (Or.inl ⟨by rfl, ?hyb8⟩) (by assumption) ?restb8
      case hyb8 => intro w hSw; go_simp <;> with_reducible rfl
      simp only [Act.put, List.getElem_toArray, List.getElem_cons_zero, List.getElem_cons_succ, List.setIfInBounds_toArray, List.set_cons_zero, List.set_cons_succ]
      refine wpAnyH_take (i := 9) (v := ?vb9) rfl (by kernel_rfl) (by kernel_rfl) (by kernel_rfl) (fun _ _ _ h => h) (Or.inl ⟨by rfl, ?hyb9⟩) (by assumption) ?restb9
      case hyb9 => intro w hSw; go_simp <;> with_reducible rfl
      simp only [Act.put, List.getElem_toArray, List.getElem_cons_zero, List.getElem_cons_succ, List.setIfInBounds_toArray, List.set_cons_zero, List.set_cons_succ]
      refine wpAnyH_take (i := 11) (v := ?vb11) rfl (by kernel_rfl) (by kernel_rfl) (by kernel_rfl) (fun _ _ _ h => h) (Or.inl ⟨by rfl, ?hyb11⟩) (by assumption) ?restb11
      case hyb11 => intro w hSw; go_simp <;> with_reducible rfl
      simp only [Act.put, List.getElem_toArray, List.getElem_cons_zero, List.getElem_cons_succ, List.setIfInBounds_toArray, List.set_cons_zero, List.set_cons_succ]
      refine wpAnyH_ready (rs := [10]) (by kernel_rfl) (by simp) ?_
      refine AllReadyH.cons rfl (fun K hK => ?_) AllReadyH.nil
      go_simp
      refine (unhide HL).mono ?_
      rintro e wq ⟨Bs, lv, rfl, hlc, hlo, hbq⟩
      refine hK _ _ (unhide HSs wq hbq) ?_
      clear hK hHeld
      have HRa := hide (unhide HRu wq hbq)
      have HLC := hide hlc; have HLO := hide hlo; have HBQ := hide hbq
      clear hlc hlo hbq
      intro hHeld
      refine wpAnyH_ready (rs := [12]) (by kernel_rfl) (by simp) ?_
      refine AllReadyH.cons rfl (fun K hK => ?_) AllReadyH.nil
      go_simp
      refine (unhide HRa).mono ?_
      rintro e wq ⟨x, rfl, hro, hbq2⟩
      refine hK _ _ (unhide HSs _ ((unhide HBQ).trans (hbq2.mono (unhide HBQ).size))) ?_
      clear hK hHeld
      obtain ⟨ax, cx, rfl⟩ := own_shape2 hro
      have HT := hide (told_both (unhide HLC) (unhide HLO) hro hbq2 (unhide HLe))
      have HBQ2 := hide ((unhide HBQ).trans (hbq2.mono (unhide HBQ).size))
      clear hro hbq2 HBQ HLC HLO
      intro hHeld
      refine wpAnyH_ready (rs := [13]) (by kernel_rfl) (by simp) ?_
      refine AllReadyH.cons rfl (fun K hK => ?_) AllReadyH.nil
      go_simp
      refine (unhide HT).mono ?_
      rintro e wq ⟨rfl, hbq3⟩
      refine hK _ _ (unhide HSs _ ((unhide HBQ2).trans (hbq3.mono (unhide HBQ2).size))) ?_
      clear hK hHeld
      have HE : Hid (Below w.heap.size w _) := (unhide HB).trans ((((Below.refl wr.heap.size wr).drew).trans ((unhide HBQ2).trans (hbq3.mono (unhide HBQ2).size))).mono (unhide HB).size)
      clear hbq3
      intro hHeld
      refine wpAnyH_take (i := 14) (v := .bool true) rfl (by kernel_rfl) (by kernel_rfl) (by kernel_rfl) (fun _ _ _ h => h) (Or.inl ⟨by rfl, ?hyb14⟩) (by assumption) ?restb14
      case hyb14 => intro w hSw; go_simp <;> with_reducible rfl
      simp only [Act.put, List.getElem_toArray, List.getElem_cons_zero, List.getElem_cons_succ, List.setIfInBounds_toArray, List.set_cons_zero, List.set_cons_succ]
      refine wpAnyH_take (i := 15) (v := .bool true) rfl (by kernel_rfl) (by kernel_rfl) (by kernel_rfl) (fun _ _ _ h => h) (Or.inl ⟨by rfl, ?hyb15⟩) (by assumption) ?restb15
      case hyb15 => intro w hSw; go_simp <;> with_reducible rfl
      simp only [Act.put, List.getElem_toArray, List.getElem_cons_zero, List.getElem_cons_succ, List.setIfInBounds_toArray, List.set_cons_zero, List.set_cons_succ]
      refine wpAnyH_done (by kernel_rfl) ?_ _
      go_wp2
      go_ret
      exact ⟨rfl, unhide HE⟩
end Go.Proofs.Yteehhbgjjamjiaa
