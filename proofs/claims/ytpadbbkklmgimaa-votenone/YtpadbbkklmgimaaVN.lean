/- VoteNone: the walk. -/
import Derived.Test.YtpadbbkklmgimaaVD
namespace Go.Proofs.Ytpadbbkklmgimaa
open Go.RowKit
set_option maxRecDepth 100000

/-- Where the first loop stands. -/
def AtNo (W1 : World) (c : Value) (wr : World) : Prop := ∃ k : Nat, k ≤ 2 ∧ c = .int .i64 k ∧ Below W1.heap.size W1 wr
/-- Where the second one stands. -/
def AtTwin (w3 : World) (m h r : Nat) (c : Value) (wr : World) : Prop := ∃ t : Nat, t ≤ m ∧ c = .int .i64 t ∧ JvAt wr w3.heap.size h r ∧ Below w3.heap.size w3 wr

theorem tells_nil {w : World} {B : Nat} (I : IsV w B ⟨0, 0, 0, 0, fun _ => false⟩) :
    Calls Try.prog 21 #[It B, .slice none 0 0, .int .i64 0] w fun e w' => e = .returned (.bool true) ∧ Below w.heap.size w w' :=
  tells_any I (by decide) _ ⟨none, 0, 0, rfl, Nat.le_refl _, fun h => absurd h (Nat.lt_irrefl _), fun t h => absurd h (Nat.not_lt_zero _)⟩ 0

set_option maxHeartbeats 1600000 in
theorem voteNone_walk (n s t v : Int) (sv : Value) (m : Nat) (os : Nat → OpV) (w : World) (hs : SeesOps w sv m os) :
    Calls Try.prog 5 #[.agg #[.int .i64 n, .int .i64 s, .int .i64 t, .int .i64 v], sv] w fun e w' => e = .returned (.bool true) ∧ Below w.heap.size w w' := by
  obtain ⟨B, hB⟩ : ∃ B, w.alloc (.cells #[.int .i64 n, .int .i64 s, .int .i64 t, .int .i64 v] 25) = B := ⟨_, rfl⟩
  have hb0 : Below w.heap.size w B := hB ▸ (Below.refl _ _).alloc (Nat.le_refl _) _
  have hsz : B.heap.size = w.heap.size + 1 := by rw [← hB]; simp
  have HBX : Hid (∀ x, Below B.heap.size B x → x.cell? ⟨w.heap.size, 0, none⟩ = some (.int .i64 n) ∧ x.cell? ⟨w.heap.size, 1, none⟩ = some (.int .i64 s) ∧ x.cell? ⟨w.heap.size, 2, none⟩ = some (.int .i64 t) ∧ x.cell? ⟨w.heap.size, 3, none⟩ = some (.int .i64 v)) := fun x hx => box4b (by rw [hB, ← hsz]; exact hx)
  have HB0 := hide hb0
  have HS : Hid (∀ w', Below w.heap.size w w' → SeesOps w' sv m os) := fun w' hb => hs.below hb
  obtain ⟨ao, cap0, _, _, rfl, hcap, hmax, _⟩ := id hs
  clear hb0 hs hsz
  go_enter Try.func5, Try.ntmps5
  go_wp2_with (rw [hB])
  refine (live_any B).mono ?_
  rintro e w1 ⟨rfl, hb1⟩
  have HB1 := hide hb1
  clear hb1
  go_wp2
  obtain ⟨W1, hW1⟩ : ∃ W1, (w1.alloc (.cells #[.int .i64 0, .int .i64 0, .int .i64 0, .int .i64 0, .bool false, .bool false, .bool false, .bool false, .bool false] 58)).alloc (.cells #[.pointer none, .pointer (some ⟨w1.heap.size, 0, none⟩)] 27) = W1 := ⟨_, rfl⟩
  rw [hW1]
  have hb1W : Below w1.heap.size w1 W1 := by rw [← hW1]; exact ((Below.refl _ _).alloc (Nat.le_refl _) _).alloc (by simp) _
  have HBW : Hid (Below B.heap.size B W1) := (unhide HB1).trans (hb1W.mono (unhide HB1).size)
  have HV : Hid (∀ k, k < 2 → ∃ v, (∀ w', Below W1.heap.size W1 w' → w'.cell? ⟨w1.heap.size + 1, k, none⟩ = some v) ∧ IsZero W1 v) := by
    intro k hk
    have hs1 : W1.heap.size = w1.heap.size + 2 := by rw [← hW1]; simp
    have hc : ∀ j, W1.cell? ⟨w1.heap.size + 1, j, none⟩ = (#[.pointer none, .pointer (some ⟨w1.heap.size, 0, none⟩)] : Array Value)[j]? := fun j => by
      rw [← hW1]
      have := World.cell?_alloc_mark (w1.alloc (.cells #[.int .i64 0, .int .i64 0, .int .i64 0, .int .i64 0, .bool false, .bool false, .bool false, .bool false, .bool false] 58)) #[.pointer none, .pointer (some ⟨w1.heap.size, 0, none⟩)] 27 (0, 0) j
      rw [World.size_alloc] at this
      exact this
    have hz : IsV W1 w1.heap.size ⟨0, 0, 0, 0, fun _ => false⟩ := by
      rw [← hW1]
      exact (isV_new w1 _ ⟨0, 0, 0, 0, fun _ => false⟩ rfl rfl).alloc _
    rcases (show k = 0 ∨ k = 1 by omega) with rfl | rfl
    · exact ⟨.pointer none, fun w' hb => (hb.cell (p := ⟨w1.heap.size + 1, 0, none⟩) (by show w1.heap.size + 1 < _; omega)).trans (hc 0), Or.inl rfl⟩
    · exact ⟨.pointer (some ⟨w1.heap.size, 0, none⟩), fun w' hb => (hb.cell (p := ⟨w1.heap.size + 1, 1, none⟩) (by show w1.heap.size + 1 < _; omega)).trans (hc 1), Or.inr ⟨_, rfl, hz⟩⟩
  clear hW1 hb1W
  go_loopw [23] (fun c wr => AtNo W1 c wr) (fun c _ => 2 - (intOf c).toNat)
  case atStart => exact ⟨0, by omega, rfl, Below.refl _ _⟩
  case round =>
    obtain ⟨k, hk, rfl, hbr⟩ := hrel
    have HBR := hide hbr
    by_cases hlt : k < 2
    · obtain ⟨v, hv, hno⟩ := unhide HV k hlt
      have hv0 := hv wr hbr
      have HZ : Hid (∀ w', Below W1.heap.size W1 w' → IsZero w' v) := fun w' hb => hno.below hb
      have HZ0 := hide (unhide HZ wr hbr)
      clear hv hno hbr
      go_wp2_with fail
      refine (voted_no (unhide HZ0).no).mono ?_
      rintro e wz ⟨rfl, rfl⟩
      go_wp2_with fail
      refine (term_no (unhide HZ0).no).mono ?_
      rintro e wz ⟨rfl, rfl⟩
      go_wp2_with fail
      refine (hear_no (unhide HZ0).no 5).mono ?_
      rintro e wz ⟨rfl, rfl⟩
      go_wp2_with fail
      refine (grant_no (unhide HZ0).no 1 5 0 0 0 0).mono ?_
      rintro e y1 ⟨rfl, hb1⟩
      have HC1 : Hid (Below W1.heap.size W1 y1) := (unhide HBR).trans (hb1.mono (unhide HBR).size)
      clear hb1
      go_wp2_with fail
      refine (stand_no (unhide HZ _ (unhide HC1)).no).mono ?_
      rintro e wz ⟨rfl, rfl⟩
      go_wp2_with fail
      refine (standing_no (unhide HZ _ (unhide HC1)).no).mono ?_
      rintro e y2 ⟨rfl, hb2⟩
      have HC2 : Hid (Below W1.heap.size W1 y2) := (unhide HC1).trans (hb2.mono (unhide HC1).size)
      clear hb2
      go_wp2_with fail
      refine (count_no (unhide HZ _ (unhide HC2)) 1 0).mono ?_
      rintro e y3 ⟨rfl, hb3⟩
      have HC3 : Hid (Below W1.heap.size W1 y3) := (unhide HC2).trans (hb3.mono (unhide HC2).size)
      clear hb3
      go_wp2_with fail
      refine (won_no (unhide HZ _ (unhide HC3))).mono ?_
      rintro e y4 ⟨rfl, hb4⟩
      have HC4 : Hid (Below W1.heap.size W1 y4) := (unhide HC3).trans (hb4.mono (unhide HC3).size)
      clear hb4
      go_wp2_with fail
      refine (votes_no (unhide HZ _ (unhide HC4))).mono ?_
      rintro e y5 ⟨rfl, I5, hb5⟩
      have HC5 : Hid (Below W1.heap.size W1 y5) := (unhide HC4).trans (hb5.mono (unhide HC4).size)
      have HI5 := hide I5
      clear hb5 I5
      go_wp2_with fail
      refine (tells_nil (unhide HI5)).mono ?_
      rintro e y6 ⟨rfl, hb6⟩
      have HC6 : Hid (Below W1.heap.size W1 y6) := (unhide HC5).trans (hb6.mono (unhide HC5).size)
      clear hb6
      go_wp2_with fail
      refine (clone_no (unhide HZ _ (unhide HC6)).no).mono ?_
      rintro e wz ⟨rfl, rfl⟩
      go_wp2
      go_roundw
      case rel => exact ⟨k + 1, by omega, by go_num, unhide HC6⟩
      case measure => simp [intOf]; omega
    · have HBr : Hid (Below B.heap.size B wr) := (unhide HBW).trans ((unhide HBR).mono (unhide HBW).size)
      have HEr : Hid (Below w.heap.size w wr) := (unhide HB0).trans ((unhide HBr).mono (unhide HB0).size)
      obtain ⟨q0, q1, q2, q3⟩ := unhide HBX wr (unhide HBr)
      clear hbr
      cases hok : okNew n s t v
      · go_wp2_with fail
        refine (new_arg wr n s t v hok).mono ?_
        rintro e y1 ⟨rfl, hb1⟩
        have HB2 : Hid (Below B.heap.size B y1) := (unhide HBr).trans (hb1.mono (unhide HBr).size)
        have HE2 : Hid (Below w.heap.size w y1) := (unhide HB0).trans ((unhide HB2).mono (unhide HB0).size)
        clear hb1 q0 q1 q2 q3
        obtain ⟨q0, q1, q2, q3⟩ := unhide HBX y1 (unhide HB2)
        go_wp2_with fail
        refine (rnew_arg y1 n s t v hok).mono ?_
        rintro e y2 ⟨rfl, hb2⟩
        have HE3 : Hid (Below w.heap.size w y2) := (unhide HE2).trans (hb2.mono (unhide HE2).size)
        clear hb2 q0 q1 q2 q3
        go_wp2
        go_ret
        exact ⟨rfl, unhide HE3⟩
      · obtain ⟨n, s, rfl, rfl, h0, h1, h3, h4, h5, h6, h7⟩ := okNew_is hok
        clear hok
        go_wp2_with fail
        refine (new_ok wr n s t v h0 h1 h3 h4 h5 h6 h7).mono ?_
        rintro e y1 ⟨rfl, I1, hb1⟩
        have HI1 := hide I1
        have HB2 : Hid (Below B.heap.size B y1) := (unhide HBr).trans (hb1.mono (unhide HBr).size)
        have HE2 : Hid (Below w.heap.size w y1) := (unhide HB0).trans ((unhide HB2).mono (unhide HB0).size)
        clear hb1 q0 q1 q2 q3 I1
        obtain ⟨q0, q1, q2, q3⟩ := unhide HBX y1 (unhide HB2)
        go_wp2_with fail
        refine (rnew_ok y1 n s t v h0 h1 h3 h4 h5 h6 h7).mono ?_
        rintro e y2 ⟨rfl, ⟨b2, cap2, R2, hR2⟩, hb2⟩
        have HE3 : Hid (Below w.heap.size w y2) := (unhide HE2).trans (hb2.mono (unhide HE2).size)
        have HI2 := hide ((unhide HI1).below hb2)
        have HR2 := hide R2
        have HO := hide (Vt.new_ok h0 h1 h3 h4 h5 h6 h7)
        clear hb2 q0 q1 q2 q3 R2 hR2
        go_wp2_with fail
        refine (clone_any (unhide HI2) (unhide HO)).mono ?_
        rintro e y3 ⟨rfl, I3, hb3⟩
        have HI3 := hide I3
        have HB3 := hide hb3
        have HR3 := hide ((unhide HR2).below (unhide HO).pos hb3)
        clear I3 hb3
        go_wp2_with fail
        refine (rclone_any (unhide HR3) (unhide HO)).mono ?_
        rintro e y4 ⟨rfl, ⟨b4, cap4, R4, hR4⟩, hb4⟩
        have hl3 := (unhide HI3).lt
        have hs3 := (unhide HB3).size
        have HB4 : Hid (Below y2.heap.size y2 y4) := (unhide HB3).trans (hb4.mono hs3)
        have HJ4 : Hid (Jv y4 y2.heap.size y2.heap.size y3.heap.size b4 (Vt.new n s t v)) := ⟨unhide HO, (unhide HI3).below hb4, ⟨cap4, R4⟩, by omega, by omega, by omega, by omega, by omega⟩
        have HFV : Hid (∀ x, Below y2.heap.size y2 x → IsV x (wr.heap.size + 1) (Vt.new n s t v) ∧ IsR x (y1.heap.size + 2) b2 cap2 (Vt.new n s t v)) := fun x hx => ⟨(unhide HI2).below hx, (unhide HR2).below (unhide HO).pos hx⟩
        clear R4 hR4 hb4 hl3 hs3
        generalize wr.heap.size + 1 = vh at HFV ⊢
        generalize y1.heap.size + 2 = vr at HFV ⊢
        generalize y3.heap.size = cr at HJ4 ⊢
        go_wp2
        go_loopw [107] (fun c wr => AtTwin y2 m y2.heap.size cr c wr) (fun c _ => m - (intOf c).toNat)
        case atStart => exact ⟨0, by omega, rfl, ⟨_, _, unhide HJ4⟩, unhide HB4⟩
        case round =>
          obtain ⟨t', ht, rfl, ⟨b, V, J⟩, hE⟩ := hrel
          have hEw := (unhide HE3).trans (hE.mono (unhide HE3).size)
          by_cases hlt2 : t' < m
          · obtain ⟨ao', cap', gb, ob, hv, _, _, hao, hcl⟩ := unhide HS wr hEw
            simp only [Value.slice.injEq, true_and] at hv
            obtain ⟨rfl, rfl⟩ := hv
            obtain rfl := hao (by omega)
            obtain ⟨q, hq⟩ : ∃ q, os t' = q := ⟨_, rfl⟩
            have hc := hcl t' hlt2
            rw [hq] at hc
            have c0 := hc 0 (by decide); have c1 := hc 1 (by decide); have c2 := hc 2 (by decide); have c3 := hc 3 (by decide); have c4 := hc 4 (by decide); have c5 := hc 5 (by decide); have c6 := hc 6 (by decide); have c7 := hc 7 (by decide); have c8 := hc 8 (by decide); have c9 := hc 9 (by decide)
            clear hcl hao hq hc
            have hb1 : Below wr.heap.size wr (wr.alloc q.obj) := (Below.refl _ _).alloc (Nat.le_refl _) _
            have hwE := hE.size
            have HD := hide (does_any (J.below hb1) (show y2.heap.size ≤ (wr.alloc q.obj).heap.size by simp; omega) q)
            have HLow := hide J.low
            have HE1 : Hid (Below y2.heap.size y2 (wr.alloc q.obj)) := hE.trans (hb1.mono hwE)
            have HZ : Hid (y2.heap.size ≤ (wr.alloc q.obj).heap.size) := (unhide HE1).size
            obtain ⟨act, term, cw, ct, cl, cz, len, last, who, yes⟩ := q
            simp only [OpV.cells, OpV.agg, OpV.obj, Nat.add_zero, List.getElem?_cons_zero, List.getElem?_cons_succ] at c0 c1 c2 c3 c4 c5 c6 c7 c8 c9 HD HE1 HZ
            clear J hE hb1 hwE hEw
            go_wp2_with fail
            refine (unhide HD).mono ?_
            rintro e y5 ⟨rfl, ⟨b5, V5, J5⟩, u5⟩
            have HJ5 := hide J5
            have HE5 := hide ((unhide HE1).trans (u5.below (unhide HZ) (unhide HLow)))
            clear J5 u5
            go_wp2
            go_roundw
            case rel => exact ⟨t' + 1, by omega, by go_num, ⟨_, _, unhide HJ5⟩, unhide HE5⟩
            case measure => simp [intOf]; omega
          · have HJ := hide J
            have HE := hide hE
            have HEw := hide hEw
            have HSV := hide (same_any (unhide HFV wr hE).1 (unhide HFV wr hE).2 (unhide HO))
            clear J hE hEw
            go_wp2_with fail
            refine (unhide HSV).mono ?_
            rintro e y5 ⟨rfl, hb5⟩
            have HJ5 := hide ((unhide HJ).below hb5)
            have HE5 := hide ((unhide HEw).trans (hb5.mono (unhide HEw).size))
            clear hb5
            go_wp2_with fail
            refine (same_at (unhide HJ5)).mono ?_
            rintro e y6 ⟨rfl, hb6⟩
            have HE6 := hide ((unhide HE5).trans (hb6.mono (unhide HE5).size))
            clear hb6
            go_wp2
            go_ret
            exact ⟨rfl, unhide HE6⟩
end Go.Proofs.Ytpadbbkklmgimaa
