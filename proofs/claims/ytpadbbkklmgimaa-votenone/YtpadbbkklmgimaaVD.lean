/- VoteDoes: the walk. -/
import Derived.Test.YtpadbbkklmgimaaW1
import Derived.Test.YtpadbbkklmgimaaW2
import Derived.Test.YtpadbbkklmgimaaRW
namespace Go.Proofs.Ytpadbbkklmgimaa
open Go.RowKit
set_option maxRecDepth 100000

theorem okNew_is {n s t v : Int} (h : okNew n s t v = true) : ∃ n' s' : Nat, n = n' ∧ s = s' ∧ 1 ≤ n' ∧ n' ≤ 5 ∧ s' < n' ∧ 0 ≤ t ∧ t ≤ 1099511627776 ∧ -1 ≤ v ∧ v < n' := by
  simp only [okNew, Bool.and_eq_true, decide_eq_true_eq] at h
  exact ⟨n.toNat, s.toNat, by omega, by omega, by omega, by omega, by omega, by omega, by omega, by omega, by omega⟩

/-- A box of four numbers stays. -/
theorem box4b {w w1 : World} {x0 x1 x2 x3 : Value} {t : TypeId} (hb : Below (w.heap.size + 1) (w.alloc (.cells #[x0, x1, x2, x3] t)) w1) :
    w1.cell? ⟨w.heap.size, 0, none⟩ = some x0 ∧ w1.cell? ⟨w.heap.size, 1, none⟩ = some x1 ∧ w1.cell? ⟨w.heap.size, 2, none⟩ = some x2 ∧ w1.cell? ⟨w.heap.size, 3, none⟩ = some x3 :=
  box4 (S := fun _ => False) (Upd.of hb) (fun h => h)

set_option maxHeartbeats 800000 in
theorem voteDoes_arg (n s t v : Int) (sv : Value) (w : World) (h : okNew n s t v = false) :
    Calls Try.prog 3 #[.agg #[.int .i64 n, .int .i64 s, .int .i64 t, .int .i64 v], sv] w fun e w' => e = .returned (.bool true) ∧ Below w.heap.size w w' := by
  obtain ⟨B, hB⟩ : ∃ B, w.alloc (.cells #[.int .i64 n, .int .i64 s, .int .i64 t, .int .i64 v] 25) = B := ⟨_, rfl⟩
  have hb0 : Below w.heap.size w B := hB ▸ (Below.refl _ _).alloc (Nat.le_refl _) _
  have hsz : B.heap.size = w.heap.size + 1 := by rw [← hB]; simp
  have HBX : Hid (∀ x, Below B.heap.size B x → x.cell? ⟨w.heap.size, 0, none⟩ = some (.int .i64 n) ∧ x.cell? ⟨w.heap.size, 1, none⟩ = some (.int .i64 s) ∧ x.cell? ⟨w.heap.size, 2, none⟩ = some (.int .i64 t) ∧ x.cell? ⟨w.heap.size, 3, none⟩ = some (.int .i64 v)) := fun x hx => box4b (by rw [hB, ← hsz]; exact hx)
  have HB0 := hide hb0
  obtain ⟨q0, q1, q2, q3⟩ := unhide HBX B (Below.refl _ _)
  clear hb0
  go_enter Try.func3, Try.ntmps3
  go_wp2_with (rw [hB])
  refine (new_arg B n s t v h).mono ?_
  rintro e w1 ⟨rfl, hb1⟩
  have HB1 := hide hb1
  clear q0 q1 q2 q3
  obtain ⟨q0, q1, q2, q3⟩ := unhide HBX w1 hb1
  clear hb1
  go_wp2_with fail
  refine (rnew_arg w1 n s t v h).mono ?_
  rintro e w2 ⟨rfl, hb2⟩
  have HB2 := hide hb2
  clear hb2 q0 q1 q2 q3
  go_wp2_with fail
  refine (live_any w2).mono ?_
  rintro e w3 ⟨rfl, hb3⟩
  have HB3 := hide hb3
  clear hb3
  go_wp2
  go_ret
  have e1 := (unhide HB0).trans ((unhide HB1).mono (unhide HB0).size)
  have e2 := e1.trans ((unhide HB2).mono e1.size)
  exact ⟨rfl, e2.trans ((unhide HB3).mono e2.size)⟩

theorem same_at {w : World} {N h r b : Nat} {V : Vt} (J : Jv w N h r b V) :
    Calls Try.prog 10 #[P0 h, P0 r] w fun e w' => e = .returned (.bool true) ∧ Below w.heap.size w w' := by
  obtain ⟨cap, R⟩ := J.rr
  exact same_any J.v R J.ok

/-- Where the script stands. -/
def AtOp (w : World) (m h r : Nat) (c : Value) (wr : World) : Prop := ∃ t : Nat, t ≤ m ∧ c = .int .i64 t ∧ JvAt wr w.heap.size h r ∧ Below w.heap.size w wr

set_option maxHeartbeats 1600000 in
theorem voteDoes_ok (n s : Nat) (t v : Int) (h0 : 1 ≤ n) (h1 : n ≤ 5) (h3 : s < n) (h4 : 0 ≤ t) (h5 : t ≤ 1099511627776) (h6 : -1 ≤ v) (h7 : v < n) (sv : Value) (m : Nat) (os : Nat → OpV) (w : World) (hs : SeesOps w sv m os) :
    Calls Try.prog 3 #[.agg #[.int .i64 n, .int .i64 s, .int .i64 t, .int .i64 v], sv] w fun e w' => e = .returned (.bool true) ∧ Below w.heap.size w w' := by
  obtain ⟨B, hB⟩ : ∃ B, w.alloc (.cells #[.int .i64 n, .int .i64 s, .int .i64 t, .int .i64 v] 25) = B := ⟨_, rfl⟩
  have hb0 : Below w.heap.size w B := hB ▸ (Below.refl _ _).alloc (Nat.le_refl _) _
  have hsz : B.heap.size = w.heap.size + 1 := by rw [← hB]; simp
  have HBX : Hid (∀ x, Below B.heap.size B x → x.cell? ⟨w.heap.size, 0, none⟩ = some (.int .i64 n) ∧ x.cell? ⟨w.heap.size, 1, none⟩ = some (.int .i64 s) ∧ x.cell? ⟨w.heap.size, 2, none⟩ = some (.int .i64 t) ∧ x.cell? ⟨w.heap.size, 3, none⟩ = some (.int .i64 v)) := fun x hx => box4b (by rw [hB, ← hsz]; exact hx)
  have HB0 := hide hb0
  have HSZ := hide hsz
  clear hsz
  have HS : Hid (∀ w', Below w.heap.size w w' → SeesOps w' sv m os) := fun w' hb => hs.below hb
  obtain ⟨ao, cap0, _, _, rfl, hcap, hmax, _⟩ := id hs
  obtain ⟨q0, q1, q2, q3⟩ := unhide HBX B (Below.refl _ _)
  clear hb0 hs
  go_enter Try.func3, Try.ntmps3
  go_wp2_with (rw [hB])
  refine (new_ok B n s t v h0 h1 h3 h4 h5 h6 h7).mono ?_
  rintro e w1 ⟨rfl, I1, hb1⟩
  have HB1 := hide hb1
  have HI1 := hide I1
  clear q0 q1 q2 q3
  obtain ⟨q0, q1, q2, q3⟩ := unhide HBX w1 hb1
  clear hb1 I1
  go_wp2_with fail
  refine (rnew_ok w1 n s t v h0 h1 h3 h4 h5 h6 h7).mono ?_
  rintro e w2 ⟨rfl, ⟨b2, cap2, R2, hR2⟩, hb2⟩
  have e1 := (unhide HB0).trans ((unhide HB1).mono (unhide HB0).size)
  have e2 := e1.trans (hb2.mono e1.size)
  have hl1 := (unhide HI1).lt
  have hsz := unhide HSZ
  have J2 : Jv w2 w.heap.size (B.heap.size + 1) (w1.heap.size + 2) b2 (Vt.new n s t v) := ⟨Vt.new_ok h0 h1 h3 h4 h5 h6 h7, (unhide HI1).below hb2, ⟨cap2, R2⟩, by omega, by omega, by omega, by omega, by omega⟩
  have HJ2 := hide J2
  have HE2 := hide e2
  clear hb2 q0 q1 q2 q3 R2 hR2 e1 e2 J2 hl1 hsz
  go_wp2_with fail
  refine (live_any w2).mono ?_
  rintro e w3 ⟨rfl, hb3⟩
  have HJ3 := hide ((unhide HJ2).below hb3)
  have HE3 := hide ((unhide HE2).trans (hb3.mono (unhide HE2).size))
  clear hb3 HJ2 HE2 HB1 HI1
  generalize B.heap.size + 1 = ph at HJ3 ⊢
  generalize w1.heap.size + 2 = pr at HJ3 ⊢
  go_wp2
  go_loopw [49] (fun c wr => AtOp w m ph pr c wr) (fun c _ => m - (intOf c).toNat)
  case atStart => exact ⟨0, by omega, rfl, ⟨_, _, unhide HJ3⟩, unhide HE3⟩
  case round =>
    obtain ⟨t', ht, rfl, ⟨b, V, J⟩, hE⟩ := hrel
    by_cases hlt : t' < m
    · obtain ⟨ao', cap', gb, ob, hv, _, _, hao, hcl⟩ := unhide HS wr hE
      simp only [Value.slice.injEq, true_and] at hv
      obtain ⟨rfl, rfl⟩ := hv
      obtain rfl := hao (by omega)
      obtain ⟨q, hq⟩ : ∃ q, os t' = q := ⟨_, rfl⟩
      have hc := hcl t' hlt
      rw [hq] at hc
      have c0 := hc 0 (by decide); have c1 := hc 1 (by decide); have c2 := hc 2 (by decide); have c3 := hc 3 (by decide); have c4 := hc 4 (by decide); have c5 := hc 5 (by decide); have c6 := hc 6 (by decide); have c7 := hc 7 (by decide); have c8 := hc 8 (by decide); have c9 := hc 9 (by decide)
      clear hcl hao hq hc
      have hob : wr.alloc q.obj = wr.alloc q.obj := rfl
      have hb1 : Below wr.heap.size wr (wr.alloc q.obj) := (Below.refl _ _).alloc (Nat.le_refl _) _
      have hwE := hE.size
      have hlb : b < wr.heap.size ∧ ph < wr.heap.size ∧ pr < wr.heap.size := by obtain ⟨cp, R⟩ := J.rr; exact ⟨R.blt J.ok.pos, J.v.lt, R.rlt⟩
      have HSK : Hid (∀ x, Upd (Tri ph pr b) (wr.heap.size + 1) (wr.alloc q.obj) x → ∀ k, x.cell? ⟨wr.heap.size, k, none⟩ = q.cells.toArray[k]?) := fun x hx => box10 hx (by rintro (c | c | c) <;> omega)
      have HD := hide (does_any ((J.below hb1).below (Below.refl _ _).drew) (show w.heap.size ≤ (wr.alloc q.obj).drew.heap.size by show _ ≤ (wr.alloc q.obj).heap.size; simp; omega) q)
      have HLow := hide J.low
      have HE1 : Hid (Below w.heap.size w (wr.alloc q.obj)) := hE.trans (hb1.mono hwE)
      have HZ : Hid ((wr.alloc q.obj).drew.heap.size = wr.heap.size + 1) := by show (wr.alloc q.obj).heap.size = _; simp
      obtain ⟨act, term, cw, ct, cl, cz, len, last, who, yes⟩ := q
      simp only [OpV.cells, OpV.agg, OpV.obj, Nat.add_zero, List.getElem?_cons_zero, List.getElem?_cons_succ] at c0 c1 c2 c3 c4 c5 c6 c7 c8 c9 HD HE1 HZ
      clear J hE hb1 hob hlb hwE
      go_wp2
      obtain ⟨WB, hWB⟩ : ∃ WB, wr.alloc (.cells #[.int .i64 act, .int .i64 term, .int .i64 cw, .int .i64 ct, .int .i64 cl, .int .i64 cz, .int .i64 len, .int .i64 last, .int .i64 who, .bool yes] 38) = WB := ⟨_, rfl⟩
      have HSK2 : Hid (∀ x, Upd (Tri ph pr b) WB.drew.heap.size WB.drew x → x.cell? ⟨wr.heap.size, 0, none⟩ = some (.int .i64 act) ∧ x.cell? ⟨wr.heap.size, 1, none⟩ = some (.int .i64 term) ∧ x.cell? ⟨wr.heap.size, 2, none⟩ = some (.int .i64 cw) ∧ x.cell? ⟨wr.heap.size, 3, none⟩ = some (.int .i64 ct) ∧ x.cell? ⟨wr.heap.size, 4, none⟩ = some (.int .i64 cl) ∧ x.cell? ⟨wr.heap.size, 5, none⟩ = some (.int .i64 cz) ∧ x.cell? ⟨wr.heap.size, 6, none⟩ = some (.int .i64 len) ∧ x.cell? ⟨wr.heap.size, 7, none⟩ = some (.int .i64 last) ∧ x.cell? ⟨wr.heap.size, 8, none⟩ = some (.int .i64 who) ∧ x.cell? ⟨wr.heap.size, 9, none⟩ = some (.bool yes)) := fun x hx => by
        have hx' : Upd (Tri ph pr b) (wr.heap.size + 1) (wr.alloc (OpV.mk act term cw ct cl cz len last who yes).obj) x := by
          rw [← unhide HZ, hWB]
          show Upd _ _ (wr.alloc (.cells #[.int .i64 act, .int .i64 term, .int .i64 cw, .int .i64 ct, .int .i64 cl, .int .i64 cz, .int .i64 len, .int .i64 last, .int .i64 who, .bool yes] 38)) _
          rw [hWB]
          exact (Upd.refl _ _ _).drew.trans hx
        have kk := unhide HSK x hx'
        exact ⟨kk 0, kk 1, kk 2, kk 3, kk 4, kk 5, kk 6, kk 7, kk 8, kk 9⟩
      rw [hWB] at HD HE1 HZ ⊢
      clear hWB HSK c0 c1 c2 c3 c4 c5 c6 c7 c8 c9
      refine wp_region_held_drew (S := fun x => x.cell? ⟨wr.heap.size, 0, none⟩ = some (.int .i64 act) ∧ x.cell? ⟨wr.heap.size, 1, none⟩ = some (.int .i64 term) ∧ x.cell? ⟨wr.heap.size, 2, none⟩ = some (.int .i64 cw) ∧ x.cell? ⟨wr.heap.size, 3, none⟩ = some (.int .i64 ct) ∧ x.cell? ⟨wr.heap.size, 4, none⟩ = some (.int .i64 cl) ∧ x.cell? ⟨wr.heap.size, 5, none⟩ = some (.int .i64 cz) ∧ x.cell? ⟨wr.heap.size, 6, none⟩ = some (.int .i64 len) ∧ x.cell? ⟨wr.heap.size, 7, none⟩ = some (.int .i64 last) ∧ x.cell? ⟨wr.heap.size, 8, none⟩ = some (.int .i64 who) ∧ x.cell? ⟨wr.heap.size, 9, none⟩ = some (.bool yes)) (by kernel_rfl) (unhide HSK2 _ (Upd.refl _ _ _)) (fun hHeld => ?_)
      refine wpAnyH_take (i := 0) (v := ?v1x0) rfl (by kernel_rfl) (by kernel_rfl) (by kernel_rfl) (fun _ _ _ h => h) (Or.inl ⟨by rfl, ?hy1x0⟩) (by assumption) ?rest1x0
      case hy1x0 => intro w hSw; obtain ⟨s0, s1, s2, s3, s4, s5, s6, s7, s8, s9⟩ := hSw; go_simp <;> with_reducible rfl
      simp only [Act.put, List.getElem_toArray, List.getElem_cons_zero, List.setIfInBounds_toArray, List.set_cons_zero, List.set_cons_succ]
      refine wpAnyH_take (i := 1) (v := ?v2x1) rfl (by kernel_rfl) (by kernel_rfl) (by kernel_rfl) (fun _ _ _ h => h) (Or.inl ⟨by rfl, ?hy2x1⟩) (by assumption) ?rest2x1
      case hy2x1 => intro w hSw; obtain ⟨s0, s1, s2, s3, s4, s5, s6, s7, s8, s9⟩ := hSw; go_simp <;> with_reducible rfl
      simp only [Act.put, List.getElem_toArray, List.getElem_cons_zero, List.getElem_cons_succ, List.setIfInBounds_toArray, List.set_cons_zero, List.set_cons_succ]
      refine wpAnyH_take (i := 2) (v := ?v3x2) rfl (by kernel_rfl) (by kernel_rfl) (by kernel_rfl) (fun _ _ _ h => h) (Or.inl ⟨by rfl, ?hy3x2⟩) (by assumption) ?rest3x2
      case hy3x2 => intro w hSw; obtain ⟨s0, s1, s2, s3, s4, s5, s6, s7, s8, s9⟩ := hSw; go_simp <;> with_reducible rfl
      simp only [Act.put, List.getElem_toArray, List.getElem_cons_zero, List.getElem_cons_succ, List.setIfInBounds_toArray, List.set_cons_zero, List.set_cons_succ]
      refine wpAnyH_ready (rs := [3]) (by kernel_rfl) (by simp) ?_
      refine AllReadyH.cons rfl (fun K hK => ?_) AllReadyH.nil
      go_simp
      refine (unhide HD).mono ?_
      rintro e y1 ⟨rfl, ⟨b1, V1, J1⟩, u1⟩
      refine hK _ _ (unhide HSK2 _ u1) ?_
      clear hK hHeld
      have HJ1 := hide J1
      have HU1 := hide u1
      have HE4 : Hid (Below w.heap.size w y1) := (unhide HE1).drew.trans (u1.below (unhide HE1).drew.size (unhide HLow))
      clear J1 u1 HD
      intro hHeld
      refine wpAnyH_take (i := 4) (v := ?v4x4) rfl (by kernel_rfl) (by kernel_rfl) (by kernel_rfl) (fun _ _ _ h => h) (Or.inl ⟨by rfl, ?hy4x4⟩) (by assumption) ?rest4x4
      case hy4x4 => intro w hSw; obtain ⟨s0, s1, s2, s3, s4, s5, s6, s7, s8, s9⟩ := hSw; go_simp <;> with_reducible rfl
      simp only [Act.put, List.getElem_toArray, List.getElem_cons_zero, List.getElem_cons_succ, List.setIfInBounds_toArray, List.set_cons_zero, List.set_cons_succ]
      refine wpAnyH_take (i := 5) (v := ?v5x5) rfl (by kernel_rfl) (by kernel_rfl) (by kernel_rfl) (fun _ _ _ h => h) (Or.inl ⟨by rfl, ?hy5x5⟩) (by assumption) ?rest5x5
      case hy5x5 => intro w hSw; obtain ⟨s0, s1, s2, s3, s4, s5, s6, s7, s8, s9⟩ := hSw; go_simp <;> with_reducible rfl
      simp only [Act.put, List.getElem_toArray, List.getElem_cons_zero, List.getElem_cons_succ, List.setIfInBounds_toArray, List.set_cons_zero, List.set_cons_succ]
      refine wpAnyH_take (i := 6) (v := ?v6x6) rfl (by kernel_rfl) (by kernel_rfl) (by kernel_rfl) (fun _ _ _ h => h) (Or.inl ⟨by rfl, ?hy6x6⟩) (by assumption) ?rest6x6
      case hy6x6 => intro w hSw; obtain ⟨s0, s1, s2, s3, s4, s5, s6, s7, s8, s9⟩ := hSw; go_simp <;> with_reducible rfl
      simp only [Act.put, List.getElem_toArray, List.getElem_cons_zero, List.getElem_cons_succ, List.setIfInBounds_toArray, List.set_cons_zero, List.set_cons_succ]
      refine wpAnyH_take (i := 7) (v := ?v7x7) rfl (by kernel_rfl) (by kernel_rfl) (by kernel_rfl) (fun _ _ _ h => h) (Or.inl ⟨by rfl, ?hy7x7⟩) (by assumption) ?rest7x7
      case hy7x7 => intro w hSw; obtain ⟨s0, s1, s2, s3, s4, s5, s6, s7, s8, s9⟩ := hSw; go_simp <;> with_reducible rfl
      simp only [Act.put, List.getElem_toArray, List.getElem_cons_zero, List.getElem_cons_succ, List.setIfInBounds_toArray, List.set_cons_zero, List.set_cons_succ]
      refine wpAnyH_ready (rs := [8]) (by kernel_rfl) (by simp) ?_
      refine AllReadyH.cons rfl (fun K hK => ?_) AllReadyH.nil
      go_simp
      refine (same_at (unhide HJ1)).mono ?_
      rintro e y2 ⟨rfl, hb2⟩
      refine hK _ _ (unhide HSK2 _ ((unhide HU1).trans ((Upd.of hb2).less (unhide HU1).size))) ?_
      clear hK hHeld
      have HJ2 := hide ((unhide HJ1).below hb2)
      have HU2 := hide ((unhide HU1).trans ((Upd.of hb2).less (unhide HU1).size))
      have HE5 := hide ((unhide HE4).trans (hb2.mono (unhide HE4).size))
      clear hb2
      intro hHeld
      refine wpAnyH_take (i := 9) (v := ?v8x9) rfl (by kernel_rfl) (by kernel_rfl) (by kernel_rfl) (fun _ _ _ h => h) (Or.inl ⟨by rfl, ?hy8x9⟩) (by assumption) ?rest8x9
      case hy8x9 => intro w hSw; obtain ⟨s0, s1, s2, s3, s4, s5, s6, s7, s8, s9⟩ := hSw; go_simp <;> with_reducible rfl
      simp only [Act.put, List.getElem_toArray, List.getElem_cons_zero, List.getElem_cons_succ, List.setIfInBounds_toArray, List.set_cons_zero, List.set_cons_succ]
      refine wpAnyH_take (i := 10) (v := ?v9x10) rfl (by kernel_rfl) (by kernel_rfl) (by kernel_rfl) (fun _ _ _ h => h) (Or.inl ⟨by rfl, ?hy9x10⟩) (by assumption) ?rest9x10
      case hy9x10 => intro w hSw; obtain ⟨s0, s1, s2, s3, s4, s5, s6, s7, s8, s9⟩ := hSw; go_simp <;> with_reducible rfl
      simp only [Act.put, List.getElem_toArray, List.getElem_cons_zero, List.getElem_cons_succ, List.setIfInBounds_toArray, List.set_cons_zero, List.set_cons_succ]
      refine wpAnyH_take (i := 11) (v := ?v10x11) rfl (by kernel_rfl) (by kernel_rfl) (by kernel_rfl) (fun _ _ _ h => h) (Or.inl ⟨by rfl, ?hy10x11⟩) (by assumption) ?rest10x11
      case hy10x11 => intro w hSw; obtain ⟨s0, s1, s2, s3, s4, s5, s6, s7, s8, s9⟩ := hSw; go_simp <;> with_reducible rfl
      simp only [Act.put, List.getElem_toArray, List.getElem_cons_zero, List.getElem_cons_succ, List.setIfInBounds_toArray, List.set_cons_zero, List.set_cons_succ]
      refine wpAnyH_take (i := 12) (v := ?v11x12) rfl (by kernel_rfl) (by kernel_rfl) (by kernel_rfl) (fun _ _ _ h => h) (Or.inl ⟨by rfl, ?hy11x12⟩) (by assumption) ?rest11x12
      case hy11x12 => intro w hSw; obtain ⟨s0, s1, s2, s3, s4, s5, s6, s7, s8, s9⟩ := hSw; go_simp <;> with_reducible rfl
      simp only [Act.put, List.getElem_toArray, List.getElem_cons_zero, List.getElem_cons_succ, List.setIfInBounds_toArray, List.set_cons_zero, List.set_cons_succ]
      refine wpAnyH_take (i := 13) (v := ?v12x13) rfl (by kernel_rfl) (by kernel_rfl) (by kernel_rfl) (fun _ _ _ h => h) (Or.inl ⟨by rfl, ?hy12x13⟩) (by assumption) ?rest12x13
      case hy12x13 => intro w hSw; obtain ⟨s0, s1, s2, s3, s4, s5, s6, s7, s8, s9⟩ := hSw; go_simp <;> with_reducible rfl
      simp only [Act.put, List.getElem_toArray, List.getElem_cons_zero, List.getElem_cons_succ, List.setIfInBounds_toArray, List.set_cons_zero, List.set_cons_succ]
      refine wpAnyH_take (i := 14) (v := ?v13x14) rfl (by kernel_rfl) (by kernel_rfl) (by kernel_rfl) (fun _ _ _ h => h) (Or.inl ⟨by rfl, ?hy13x14⟩) (by assumption) ?rest13x14
      case hy13x14 => intro w hSw; obtain ⟨s0, s1, s2, s3, s4, s5, s6, s7, s8, s9⟩ := hSw; go_simp <;> with_reducible rfl
      simp only [Act.put, List.getElem_toArray, List.getElem_cons_zero, List.getElem_cons_succ, List.setIfInBounds_toArray, List.set_cons_zero, List.set_cons_succ]
      refine wpAnyH_take (i := 15) (v := ?v14x15) rfl (by kernel_rfl) (by kernel_rfl) (by kernel_rfl) (fun _ _ _ h => h) (Or.inl ⟨by rfl, ?hy14x15⟩) (by assumption) ?rest14x15
      case hy14x15 => intro w hSw; obtain ⟨s0, s1, s2, s3, s4, s5, s6, s7, s8, s9⟩ := hSw; go_simp <;> with_reducible rfl
      simp only [Act.put, List.getElem_toArray, List.getElem_cons_zero, List.getElem_cons_succ, List.setIfInBounds_toArray, List.set_cons_zero, List.set_cons_succ]
      refine wpAnyH_take (i := 16) (v := ?v15x16) rfl (by kernel_rfl) (by kernel_rfl) (by kernel_rfl) (fun _ _ _ h => h) (Or.inl ⟨by rfl, ?hy15x16⟩) (by assumption) ?rest15x16
      case hy15x16 => intro w hSw; obtain ⟨s0, s1, s2, s3, s4, s5, s6, s7, s8, s9⟩ := hSw; go_simp <;> with_reducible rfl
      simp only [Act.put, List.getElem_toArray, List.getElem_cons_zero, List.getElem_cons_succ, List.setIfInBounds_toArray, List.set_cons_zero, List.set_cons_succ]
      refine wpAnyH_take (i := 17) (v := ?v16x17) rfl (by kernel_rfl) (by kernel_rfl) (by kernel_rfl) (fun _ _ _ h => h) (Or.inl ⟨by rfl, ?hy16x17⟩) (by assumption) ?rest16x17
      case hy16x17 => intro w hSw; obtain ⟨s0, s1, s2, s3, s4, s5, s6, s7, s8, s9⟩ := hSw; go_simp <;> with_reducible rfl
      simp only [Act.put, List.getElem_toArray, List.getElem_cons_zero, List.getElem_cons_succ, List.setIfInBounds_toArray, List.set_cons_zero, List.set_cons_succ]
      refine wpAnyH_take (i := 18) (v := ?v17x18) rfl (by kernel_rfl) (by kernel_rfl) (by kernel_rfl) (fun _ _ _ h => h) (Or.inl ⟨by rfl, ?hy17x18⟩) (by assumption) ?rest17x18
      case hy17x18 => intro w hSw; obtain ⟨s0, s1, s2, s3, s4, s5, s6, s7, s8, s9⟩ := hSw; go_simp <;> with_reducible rfl
      simp only [Act.put, List.getElem_toArray, List.getElem_cons_zero, List.getElem_cons_succ, List.setIfInBounds_toArray, List.set_cons_zero, List.set_cons_succ]
      refine wpAnyH_take (i := 20) (v := ?v18x20) rfl (by kernel_rfl) (by kernel_rfl) (by kernel_rfl) (fun _ _ _ h => h) (Or.inl ⟨by rfl, ?hy18x20⟩) (by assumption) ?rest18x20
      case hy18x20 => intro w hSw; obtain ⟨s0, s1, s2, s3, s4, s5, s6, s7, s8, s9⟩ := hSw; go_simp <;> with_reducible rfl
      simp only [Act.put, List.getElem_toArray, List.getElem_cons_zero, List.getElem_cons_succ, List.setIfInBounds_toArray, List.set_cons_zero, List.set_cons_succ]
      refine wpAnyH_take (i := 21) (v := ?v19x21) rfl (by kernel_rfl) (by kernel_rfl) (by kernel_rfl) (fun _ _ _ h => h) (Or.inl ⟨by rfl, ?hy19x21⟩) (by assumption) ?rest19x21
      case hy19x21 => intro w hSw; obtain ⟨s0, s1, s2, s3, s4, s5, s6, s7, s8, s9⟩ := hSw; go_simp <;> with_reducible rfl
      simp only [Act.put, List.getElem_toArray, List.getElem_cons_zero, List.getElem_cons_succ, List.setIfInBounds_toArray, List.set_cons_zero, List.set_cons_succ]
      refine wpAnyH_take (i := 22) (v := ?v20x22) rfl (by kernel_rfl) (by kernel_rfl) (by kernel_rfl) (fun _ _ _ h => h) (Or.inl ⟨by rfl, ?hy20x22⟩) (by assumption) ?rest20x22
      case hy20x22 => intro w hSw; obtain ⟨s0, s1, s2, s3, s4, s5, s6, s7, s8, s9⟩ := hSw; go_simp <;> with_reducible rfl
      simp only [Act.put, List.getElem_toArray, List.getElem_cons_zero, List.getElem_cons_succ, List.setIfInBounds_toArray, List.set_cons_zero, List.set_cons_succ]
      refine wpAnyH_take (i := 23) (v := ?v21x23) rfl (by kernel_rfl) (by kernel_rfl) (by kernel_rfl) (fun _ _ _ h => h) (Or.inl ⟨by rfl, ?hy21x23⟩) (by assumption) ?rest21x23
      case hy21x23 => intro w hSw; obtain ⟨s0, s1, s2, s3, s4, s5, s6, s7, s8, s9⟩ := hSw; go_simp <;> with_reducible rfl
      simp only [Act.put, List.getElem_toArray, List.getElem_cons_zero, List.getElem_cons_succ, List.setIfInBounds_toArray, List.set_cons_zero, List.set_cons_succ]
      refine wpAnyH_take (i := 24) (v := ?v22x24) rfl (by kernel_rfl) (by kernel_rfl) (by kernel_rfl) (fun _ _ _ h => h) (Or.inl ⟨by rfl, ?hy22x24⟩) (by assumption) ?rest22x24
      case hy22x24 => intro w hSw; obtain ⟨s0, s1, s2, s3, s4, s5, s6, s7, s8, s9⟩ := hSw; go_simp <;> with_reducible rfl
      simp only [Act.put, List.getElem_toArray, List.getElem_cons_zero, List.getElem_cons_succ, List.setIfInBounds_toArray, List.set_cons_zero, List.set_cons_succ]
      refine wpAnyH_take (i := 25) (v := ?v23x25) rfl (by kernel_rfl) (by kernel_rfl) (by kernel_rfl) (fun _ _ _ h => h) (Or.inl ⟨by rfl, ?hy23x25⟩) (by assumption) ?rest23x25
      case hy23x25 => intro w hSw; obtain ⟨s0, s1, s2, s3, s4, s5, s6, s7, s8, s9⟩ := hSw; go_simp <;> with_reducible rfl
      simp only [Act.put, List.getElem_toArray, List.getElem_cons_zero, List.getElem_cons_succ, List.setIfInBounds_toArray, List.set_cons_zero, List.set_cons_succ]
      refine wpAnyH_take (i := 26) (v := ?v24x26) rfl (by kernel_rfl) (by kernel_rfl) (by kernel_rfl) (fun _ _ _ h => h) (Or.inl ⟨by rfl, ?hy24x26⟩) (by assumption) ?rest24x26
      case hy24x26 => intro w hSw; obtain ⟨s0, s1, s2, s3, s4, s5, s6, s7, s8, s9⟩ := hSw; go_simp <;> with_reducible rfl
      simp only [Act.put, List.getElem_toArray, List.getElem_cons_zero, List.getElem_cons_succ, List.setIfInBounds_toArray, List.set_cons_zero, List.set_cons_succ]
      refine wpAnyH_ready (rs := [19]) (by kernel_rfl) (by simp) ?_
      refine AllReadyH.cons rfl (fun K hK => ?_) AllReadyH.nil
      go_simp
      refine (newer_any cw ct cl cz 0 0 len last _).mono ?_
      rintro e y3 ⟨rfl, hb3⟩
      refine hK _ _ (unhide HSK2 _ ((unhide HU2).trans ((Upd.of hb3).less (unhide HU2).size))) ?_
      clear hK hHeld
      have HJ4 := hide ((unhide HJ2).below hb3)
      have HU3 := hide ((unhide HU2).trans ((Upd.of hb3).less (unhide HU2).size))
      have HE6 := hide ((unhide HE5).trans (hb3.mono (unhide HE5).size))
      clear hb3
      intro hHeld
      refine wpAnyH_ready (rs := [27]) (by kernel_rfl) (by simp) ?_
      refine AllReadyH.cons rfl (fun K hK => ?_) AllReadyH.nil
      go_simp
      refine (rnewer_any cw ct cl cz 0 0 len last _).mono ?_
      rintro e y4 ⟨rfl, hb4⟩
      refine hK _ _ (unhide HSK2 _ ((unhide HU3).trans ((Upd.of hb4).less (unhide HU3).size))) ?_
      clear hK hHeld
      have HJ5 := hide ((unhide HJ4).below hb4)
      have HE7 := hide ((unhide HE6).trans (hb4.mono (unhide HE6).size))
      clear hb4
      intro hHeld
      refine wpAnyH_take (i := 28) (v := (.bool false)) rfl (by kernel_rfl) (by kernel_rfl) (by kernel_rfl) (fun _ _ _ h => h) (Or.inl ⟨by rfl, ?hy25x28⟩) (by assumption) ?rest25x28
      case hy25x28 => intro w hSw; obtain ⟨s0, s1, s2, s3, s4, s5, s6, s7, s8, s9⟩ := hSw; go_simp <;> with_reducible rfl
      simp only [Act.put, List.getElem_toArray, List.getElem_cons_zero, List.getElem_cons_succ, List.setIfInBounds_toArray, List.set_cons_zero, List.set_cons_succ]
      refine wpAnyH_take (i := 29) (v := ?v26x29) rfl (by kernel_rfl) (by kernel_rfl) (by kernel_rfl) (fun _ _ _ h => h) (Or.inl ⟨by rfl, ?hy26x29⟩) (by assumption) ?rest26x29
      case hy26x29 => intro w hSw; obtain ⟨s0, s1, s2, s3, s4, s5, s6, s7, s8, s9⟩ := hSw; go_simp <;> with_reducible rfl
      simp only [Act.put, List.getElem_toArray, List.getElem_cons_zero, List.getElem_cons_succ, List.setIfInBounds_toArray, List.set_cons_zero, List.set_cons_succ]
      refine wpAnyH_done (by kernel_rfl) ?_ _
      go_wp2
      go_roundw
      case rel => exact ⟨t' + 1, by omega, by go_num, ⟨_, _, unhide HJ5⟩, unhide HE7⟩
      case measure => simp [intOf]; omega
    · have HJ := hide J
      have HE := hide hE
      clear J hE
      go_wp2_with fail
      refine (same_at (unhide HJ)).mono ?_
      rintro e w5 ⟨rfl, hb5⟩
      have HE5 := hide ((unhide HE).trans (hb5.mono (unhide HE).size))
      clear hb5
      go_wp2
      go_ret
      exact ⟨rfl, unhide HE5⟩
end Go.Proofs.Ytpadbbkklmgimaa
